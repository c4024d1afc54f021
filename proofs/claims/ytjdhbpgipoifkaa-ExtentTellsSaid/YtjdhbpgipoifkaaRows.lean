/-
  No cell of these rows narrows 'for every input' (looked for: loops, veiled, ifaces, maps, wideKeys, modest, calm, conditions, laid).
  DERIVED. THE GIVEN ROWS OF THIS SEAT. 7 by the template 'for every input the law returns true; each argument reads behind the call as it read before'; 0 by the template 'total and deterministic' (their statements: YtjdhbpgipoifkaaTotals.lean).
  GIVEN WITH THE SEED: the statements are not yours to turn. If you find one false, say at which input.
  Laid BY PROGRAM, IN A SANDBOX (cutbox-rows.mjs): the forced cells as the released guide's own fill.sh prints them over the translation 331d0330f7de8ffd… (all of the seat's roots in one cut). By AI agents, Wed Nov 11 2026. No macro, syntax, notation, axiom, sorry.
-/
import Derived.Test.YtjdhbpgipoifkaaChecked
import GoSem.Claim
import GoSem.ClaimJoined
import GoSem.ClaimMapViews
import Derived.JoinedTies
import Derived.KernelRfl
namespace Go.Proofs.Ytjdhbpgipoifkaa
/- THE CELL 'sum', in the pinned program and in every row, IS THE sha256 OF THE DUMP (.gsa) THAT YtjdhbpgipoifkaaProg.lean LOADS. Nothing in Lean hashes anything: it is a label: what it is worth is what the hold of that sum in a sandbox is worth. -/
noncomputable def Try.pinned : Pinned := { name := "ytjdhbpgipoifkaa", sum := "331d0330f7de8ffd8af898659bf157ba8fc6979c699708add47d05c4c9dd2fb0", checked := Try.checked }
namespace Rows
def none {H : Type} : Left H := { results := [], args := [] }

/-- 'escheatlaw19.ExtentTells': WHATEVER THE INPUT: true; the input reads as it did. -/
def extentTellsSpec : ChangeSpec := { name := "extentTells", fn := fun _ => fun
  | [d1, d2] => { results := [.lit (.bool true)], args := [d1, d2] }
  | _ => none }
def extentTellsRow : OpenClaim := { program := "ytjdhbpgipoifkaa", sum := "331d0330f7de8ffd8af898659bf157ba8fc6979c699708add47d05c4c9dd2fb0", func := "escheat/escheatlaw19.ExtentTells", spec := "extentTells", unfollowed := true, recurses := true, plainKeys := false, apart := false }
def ExtentTellsSaid : Prop := extentTellsRow.holds Try.pinned (OpenSpec.ofChange extentTellsSpec)

/-- ITS FALSE NEIGHBOUR: 'it returns false'. Refute it at one input. -/
def extentTellsWrong : ChangeSpec := { name := "extentTells", fn := fun _ => fun
  | [d1, d2] => { results := [.lit (.bool false)], args := [d1, d2] }
  | _ => none }
def ExtentTellsWrongFalsely : Prop := extentTellsRow.holds Try.pinned (OpenSpec.ofChange extentTellsWrong)

/-- 'escheatlaw19.ExtentPuts': WHATEVER THE INPUT: true; the input reads as it did. -/
def extentPutsSpec : ChangeSpec := { name := "extentPuts", fn := fun _ => fun
  | [d1, d2] => { results := [.lit (.bool true)], args := [d1, d2] }
  | _ => none }
def extentPutsRow : OpenClaim := { program := "ytjdhbpgipoifkaa", sum := "331d0330f7de8ffd8af898659bf157ba8fc6979c699708add47d05c4c9dd2fb0", func := "escheat/escheatlaw19.ExtentPuts", spec := "extentPuts", unfollowed := true, recurses := true, plainKeys := false, apart := false }
def ExtentPutsSaid : Prop := extentPutsRow.holds Try.pinned (OpenSpec.ofChange extentPutsSpec)

/-- ITS FALSE NEIGHBOUR: 'it returns false'. Refute it at one input. -/
def extentPutsWrong : ChangeSpec := { name := "extentPuts", fn := fun _ => fun
  | [d1, d2] => { results := [.lit (.bool false)], args := [d1, d2] }
  | _ => none }
def ExtentPutsWrongFalsely : Prop := extentPutsRow.holds Try.pinned (OpenSpec.ofChange extentPutsWrong)

/-- 'escheatlaw19.ExtentPlans': WHATEVER THE INPUT: true; the input reads as it did. -/
def extentPlansSpec : ChangeSpec := { name := "extentPlans", fn := fun _ => fun
  | [d1, d2, d3] => { results := [.lit (.bool true)], args := [d1, d2, d3] }
  | _ => none }
def extentPlansRow : OpenClaim := { program := "ytjdhbpgipoifkaa", sum := "331d0330f7de8ffd8af898659bf157ba8fc6979c699708add47d05c4c9dd2fb0", func := "escheat/escheatlaw19.ExtentPlans", spec := "extentPlans", unfollowed := true, recurses := true, plainKeys := false, apart := false }
def ExtentPlansSaid : Prop := extentPlansRow.holds Try.pinned (OpenSpec.ofChange extentPlansSpec)

/-- ITS FALSE NEIGHBOUR: 'it returns false'. Refute it at one input. -/
def extentPlansWrong : ChangeSpec := { name := "extentPlans", fn := fun _ => fun
  | [d1, d2, d3] => { results := [.lit (.bool false)], args := [d1, d2, d3] }
  | _ => none }
def ExtentPlansWrongFalsely : Prop := extentPlansRow.holds Try.pinned (OpenSpec.ofChange extentPlansWrong)

/-- 'escheatlaw19.ExtentMoves': WHATEVER THE INPUT: true; the input reads as it did. -/
def extentMovesSpec : ChangeSpec := { name := "extentMoves", fn := fun _ => fun
  | [d1, d2, d3] => { results := [.lit (.bool true)], args := [d1, d2, d3] }
  | _ => none }
def extentMovesRow : OpenClaim := { program := "ytjdhbpgipoifkaa", sum := "331d0330f7de8ffd8af898659bf157ba8fc6979c699708add47d05c4c9dd2fb0", func := "escheat/escheatlaw19.ExtentMoves", spec := "extentMoves", unfollowed := true, recurses := true, plainKeys := false, apart := false }
def ExtentMovesSaid : Prop := extentMovesRow.holds Try.pinned (OpenSpec.ofChange extentMovesSpec)

/-- ITS FALSE NEIGHBOUR: 'it returns false'. Refute it at one input. -/
def extentMovesWrong : ChangeSpec := { name := "extentMoves", fn := fun _ => fun
  | [d1, d2, d3] => { results := [.lit (.bool false)], args := [d1, d2, d3] }
  | _ => none }
def ExtentMovesWrongFalsely : Prop := extentMovesRow.holds Try.pinned (OpenSpec.ofChange extentMovesWrong)

/-- 'escheatlaw19.ExtentBytes': WHATEVER THE INPUT: true; the input reads as it did. -/
def extentBytesSpec : ChangeSpec := { name := "extentBytes", fn := fun _ => fun
  | [d1, d2, d3] => { results := [.lit (.bool true)], args := [d1, d2, d3] }
  | _ => none }
def extentBytesRow : OpenClaim := { program := "ytjdhbpgipoifkaa", sum := "331d0330f7de8ffd8af898659bf157ba8fc6979c699708add47d05c4c9dd2fb0", func := "escheat/escheatlaw19.ExtentBytes", spec := "extentBytes", unfollowed := true, recurses := true, plainKeys := false, apart := false }
def ExtentBytesSaid : Prop := extentBytesRow.holds Try.pinned (OpenSpec.ofChange extentBytesSpec)

/-- ITS FALSE NEIGHBOUR: 'it returns false'. Refute it at one input. -/
def extentBytesWrong : ChangeSpec := { name := "extentBytes", fn := fun _ => fun
  | [d1, d2, d3] => { results := [.lit (.bool false)], args := [d1, d2, d3] }
  | _ => none }
def ExtentBytesWrongFalsely : Prop := extentBytesRow.holds Try.pinned (OpenSpec.ofChange extentBytesWrong)

/-- 'escheatlaw19.ExtentKeeps': WHATEVER THE INPUT: true; the input reads as it did. -/
def extentKeepsSpec : ChangeSpec := { name := "extentKeeps", fn := fun _ => fun
  | [d1, d2, d3] => { results := [.lit (.bool true)], args := [d1, d2, d3] }
  | _ => none }
def extentKeepsRow : OpenClaim := { program := "ytjdhbpgipoifkaa", sum := "331d0330f7de8ffd8af898659bf157ba8fc6979c699708add47d05c4c9dd2fb0", func := "escheat/escheatlaw19.ExtentKeeps", spec := "extentKeeps", unfollowed := true, recurses := true, plainKeys := false, apart := false }
def ExtentKeepsSaid : Prop := extentKeepsRow.holds Try.pinned (OpenSpec.ofChange extentKeepsSpec)

/-- ITS FALSE NEIGHBOUR: 'it returns false'. Refute it at one input. -/
def extentKeepsWrong : ChangeSpec := { name := "extentKeeps", fn := fun _ => fun
  | [d1, d2, d3] => { results := [.lit (.bool false)], args := [d1, d2, d3] }
  | _ => none }
def ExtentKeepsWrongFalsely : Prop := extentKeepsRow.holds Try.pinned (OpenSpec.ofChange extentKeepsWrong)

/-- 'escheatlaw19.ExtentHoles': WHATEVER THE INPUT: true; the input reads as it did. -/
def extentHolesSpec : ChangeSpec := { name := "extentHoles", fn := fun _ => fun
  | [d1, d2, d3] => { results := [.lit (.bool true)], args := [d1, d2, d3] }
  | _ => none }
def extentHolesRow : OpenClaim := { program := "ytjdhbpgipoifkaa", sum := "331d0330f7de8ffd8af898659bf157ba8fc6979c699708add47d05c4c9dd2fb0", func := "escheat/escheatlaw19.ExtentHoles", spec := "extentHoles", unfollowed := true, recurses := true, plainKeys := false, apart := false }
def ExtentHolesSaid : Prop := extentHolesRow.holds Try.pinned (OpenSpec.ofChange extentHolesSpec)

/-- ITS FALSE NEIGHBOUR: 'it returns false'. Refute it at one input. -/
def extentHolesWrong : ChangeSpec := { name := "extentHoles", fn := fun _ => fun
  | [d1, d2, d3] => { results := [.lit (.bool false)], args := [d1, d2, d3] }
  | _ => none }
def ExtentHolesWrongFalsely : Prop := extentHolesRow.holds Try.pinned (OpenSpec.ofChange extentHolesWrong)

/- THE SECOND FORM. 'bulk': how many values and letters a reading holds, each counted each time it is reached (what is shared counts as often as it is met; a slice's spare places count too). A statement '..UptoSaid' is the law's where the arguments, and the package variables that the reading takes, are together of bulk at most 1048576: NARROWER than '..Said'. Prove '..Said' where nothing that the law and all that it calls make is longer than what came in: it says more and counts as full. Else prove '..UptoSaid'. A law counts once. -/
mutual
def uptoBulk {H : Type} : DataW H → Nat
  | .lit (.string bytes) => bytes.length + 1
  | .lit _ => 1
  | .nil => 1
  | .ptr d => uptoBulk d + 1
  | .slice elems spare => uptoBulkAll elems + uptoBulkAll spare + 1
  | .agg parts => uptoBulkAll parts + 1
  | .iface _ d => uptoBulk d + 1
  | .map entries => uptoBulkEntries entries + 1
  | .held _ => 1
def uptoBulkAll {H : Type} : List (DataW H) → Nat
  | [] => 0
  | d :: r => uptoBulk d + uptoBulkAll r
def uptoBulkEntries {H : Type} : List (Lit × DataW H) → Nat
  | [] => 0
  | x :: r => uptoBulkEntry x + uptoBulkEntries r
def uptoBulkEntry {H : Type} : Lit × DataW H → Nat
  | (.string bytes, d) => bytes.length + uptoBulk d + 1
  | (_, d) => uptoBulk d + 1
 end
def uptoSmall : (H : Type) → List (DataW H) → Bool := fun _ ds => decide (uptoBulkAll ds ≤ 1048576)
def OpenSpec.upto (s : _root_.Go.ChangeSpec) : _root_.Go.OpenSpec := { _root_.Go.OpenSpec.ofChange s with cond := some uptoSmall }

/-- 'escheatlaw19.ExtentTells', WHERE WHAT IT READS IS OF BULK AT MOST 1048576: true; the input reads as it did. -/
def extentTellsUptoRow : OpenClaim := { program := "ytjdhbpgipoifkaa", sum := "331d0330f7de8ffd8af898659bf157ba8fc6979c699708add47d05c4c9dd2fb0", func := "escheat/escheatlaw19.ExtentTells", spec := "extentTells", unfollowed := true, recurses := true, plainKeys := false, apart := false, narrowed := true }
def ExtentTellsUptoSaid : Prop := extentTellsUptoRow.holds Try.pinned (OpenSpec.upto extentTellsSpec)

/-- 'escheatlaw19.ExtentPuts', WHERE WHAT IT READS IS OF BULK AT MOST 1048576: true; the input reads as it did. -/
def extentPutsUptoRow : OpenClaim := { program := "ytjdhbpgipoifkaa", sum := "331d0330f7de8ffd8af898659bf157ba8fc6979c699708add47d05c4c9dd2fb0", func := "escheat/escheatlaw19.ExtentPuts", spec := "extentPuts", unfollowed := true, recurses := true, plainKeys := false, apart := false, narrowed := true }
def ExtentPutsUptoSaid : Prop := extentPutsUptoRow.holds Try.pinned (OpenSpec.upto extentPutsSpec)

/-- 'escheatlaw19.ExtentPlans', WHERE WHAT IT READS IS OF BULK AT MOST 1048576: true; the input reads as it did. -/
def extentPlansUptoRow : OpenClaim := { program := "ytjdhbpgipoifkaa", sum := "331d0330f7de8ffd8af898659bf157ba8fc6979c699708add47d05c4c9dd2fb0", func := "escheat/escheatlaw19.ExtentPlans", spec := "extentPlans", unfollowed := true, recurses := true, plainKeys := false, apart := false, narrowed := true }
def ExtentPlansUptoSaid : Prop := extentPlansUptoRow.holds Try.pinned (OpenSpec.upto extentPlansSpec)

/-- 'escheatlaw19.ExtentMoves', WHERE WHAT IT READS IS OF BULK AT MOST 1048576: true; the input reads as it did. -/
def extentMovesUptoRow : OpenClaim := { program := "ytjdhbpgipoifkaa", sum := "331d0330f7de8ffd8af898659bf157ba8fc6979c699708add47d05c4c9dd2fb0", func := "escheat/escheatlaw19.ExtentMoves", spec := "extentMoves", unfollowed := true, recurses := true, plainKeys := false, apart := false, narrowed := true }
def ExtentMovesUptoSaid : Prop := extentMovesUptoRow.holds Try.pinned (OpenSpec.upto extentMovesSpec)

/-- 'escheatlaw19.ExtentBytes', WHERE WHAT IT READS IS OF BULK AT MOST 1048576: true; the input reads as it did. -/
def extentBytesUptoRow : OpenClaim := { program := "ytjdhbpgipoifkaa", sum := "331d0330f7de8ffd8af898659bf157ba8fc6979c699708add47d05c4c9dd2fb0", func := "escheat/escheatlaw19.ExtentBytes", spec := "extentBytes", unfollowed := true, recurses := true, plainKeys := false, apart := false, narrowed := true }
def ExtentBytesUptoSaid : Prop := extentBytesUptoRow.holds Try.pinned (OpenSpec.upto extentBytesSpec)

/-- 'escheatlaw19.ExtentKeeps', WHERE WHAT IT READS IS OF BULK AT MOST 1048576: true; the input reads as it did. -/
def extentKeepsUptoRow : OpenClaim := { program := "ytjdhbpgipoifkaa", sum := "331d0330f7de8ffd8af898659bf157ba8fc6979c699708add47d05c4c9dd2fb0", func := "escheat/escheatlaw19.ExtentKeeps", spec := "extentKeeps", unfollowed := true, recurses := true, plainKeys := false, apart := false, narrowed := true }
def ExtentKeepsUptoSaid : Prop := extentKeepsUptoRow.holds Try.pinned (OpenSpec.upto extentKeepsSpec)

/-- 'escheatlaw19.ExtentHoles', WHERE WHAT IT READS IS OF BULK AT MOST 1048576: true; the input reads as it did. -/
def extentHolesUptoRow : OpenClaim := { program := "ytjdhbpgipoifkaa", sum := "331d0330f7de8ffd8af898659bf157ba8fc6979c699708add47d05c4c9dd2fb0", func := "escheat/escheatlaw19.ExtentHoles", spec := "extentHoles", unfollowed := true, recurses := true, plainKeys := false, apart := false, narrowed := true }
def ExtentHolesUptoSaid : Prop := extentHolesUptoRow.holds Try.pinned (OpenSpec.upto extentHolesSpec)

end Rows
end Go.Proofs.Ytjdhbpgipoifkaa
