/-
  No cell of these rows narrows 'for every input' (looked for: loops, veiled, ifaces, maps, wideKeys, modest, calm, conditions, laid).
  DERIVED. THE GIVEN ROWS OF THIS SEAT. 3 by the template 'for every input the law returns true; each argument reads behind the call as it read before'; 0 by the template 'total and deterministic' (their statements: YtchhmfdalghgcaaGreatTotals.lean).
  GIVEN WITH THE SEED: the statements are not yours to turn. If you find one false, say at which input.
  Laid BY PROGRAM, IN A SANDBOX (cutbox-rows.mjs): the forced cells as the released guide's own fill.sh prints them over the translation c3d71217d4489858… (all of the seat's roots in one cut). By AI agents, Wed Nov 11 2026. No macro, syntax, notation, axiom, sorry.
-/
import Derived.Test.YtchhmfdalghgcaaGreatChecked
import GoSem.Claim
import GoSem.ClaimJoined
import GoSem.ClaimMapViews
import Derived.JoinedTies
import Derived.KernelRfl
namespace Go.Proofs.YtchhmfdalghgcaaGreat
/- THE CELL 'sum', in the pinned program and in every row, IS THE sha256 OF THE DUMP (.gsa) THAT YtchhmfdalghgcaaGreatProg.lean LOADS. Nothing in Lean hashes anything: it is a label: what it is worth is what the hold of that sum in a sandbox is worth. -/
noncomputable def Tryz.pinned : Pinned := { name := "ytchhmfdalghgcaagreat", sum := "c3d71217d4489858209598dc0551fbd0e5932bb49b83dfff0c2a553697183ab2", checked := Tryz.checked }
namespace Rows
def none {H : Type} : Left H := { results := [], args := [] }

/-- 'escheatlaw17.TailSees': WHATEVER THE INPUT: true; the input reads as it did. -/
def tailSeesSpec : ChangeSpec := { name := "tailSees", fn := fun _ => fun
  | [d1, d2] => { results := [.lit (.bool true)], args := [d1, d2] }
  | _ => none }
def tailSeesRow : OpenClaim := { program := "ytchhmfdalghgcaagreat", sum := "c3d71217d4489858209598dc0551fbd0e5932bb49b83dfff0c2a553697183ab2", func := "escheat/escheatlaw17.TailSees", spec := "tailSees", unfollowed := true, recurses := true, plainKeys := false, apart := false }
def TailSeesSaid : Prop := tailSeesRow.holds Tryz.pinned (OpenSpec.ofChange tailSeesSpec)

/-- ITS FALSE NEIGHBOUR: 'it returns false'. Refute it at one input. -/
def tailSeesWrong : ChangeSpec := { name := "tailSees", fn := fun _ => fun
  | [d1, d2] => { results := [.lit (.bool false)], args := [d1, d2] }
  | _ => none }
def TailSeesWrongFalsely : Prop := tailSeesRow.holds Tryz.pinned (OpenSpec.ofChange tailSeesWrong)

/-- 'escheatlaw17.TailMoves': WHATEVER THE INPUT: true; the input reads as it did. -/
def tailMovesSpec : ChangeSpec := { name := "tailMoves", fn := fun _ => fun
  | [d] => { results := [.lit (.bool true)], args := [d] }
  | _ => none }
def tailMovesRow : OpenClaim := { program := "ytchhmfdalghgcaagreat", sum := "c3d71217d4489858209598dc0551fbd0e5932bb49b83dfff0c2a553697183ab2", func := "escheat/escheatlaw17.TailMoves", spec := "tailMoves", unfollowed := true, recurses := true, plainKeys := false, apart := false }
def TailMovesSaid : Prop := tailMovesRow.holds Tryz.pinned (OpenSpec.ofChange tailMovesSpec)

/-- ITS FALSE NEIGHBOUR: 'it returns false'. Refute it at one input. -/
def tailMovesWrong : ChangeSpec := { name := "tailMoves", fn := fun _ => fun
  | [d] => { results := [.lit (.bool false)], args := [d] }
  | _ => none }
def TailMovesWrongFalsely : Prop := tailMovesRow.holds Tryz.pinned (OpenSpec.ofChange tailMovesWrong)

/-- 'escheatlaw17.TailNone': WHATEVER THE INPUT: true; the input reads as it did. -/
def tailNoneSpec : ChangeSpec := { name := "tailNone", fn := fun _ => fun
  | [d1, d2] => { results := [.lit (.bool true)], args := [d1, d2] }
  | _ => none }
def tailNoneRow : OpenClaim := { program := "ytchhmfdalghgcaagreat", sum := "c3d71217d4489858209598dc0551fbd0e5932bb49b83dfff0c2a553697183ab2", func := "escheat/escheatlaw17.TailNone", spec := "tailNone", unfollowed := true, recurses := true, plainKeys := false, apart := false }
def TailNoneSaid : Prop := tailNoneRow.holds Tryz.pinned (OpenSpec.ofChange tailNoneSpec)

/-- ITS FALSE NEIGHBOUR: 'it returns false'. Refute it at one input. -/
def tailNoneWrong : ChangeSpec := { name := "tailNone", fn := fun _ => fun
  | [d1, d2] => { results := [.lit (.bool false)], args := [d1, d2] }
  | _ => none }
def TailNoneWrongFalsely : Prop := tailNoneRow.holds Tryz.pinned (OpenSpec.ofChange tailNoneWrong)

/- THE SECOND FORM. 'bulk': how many values and letters a reading holds, each counted each time it is reached (what is shared counts as often as it is met; a slice's spare places count too). A statement '..UptoSaid' is the law's where the arguments, and the package variables that the reading takes, are together of bulk at most 1048576: NARROWER than '..Said'. Prove '..Said' where nothing that the law and all that it calls make is longer than what came in: it says more and counts as full. Else prove '..UptoSaid'. A law counts once. -/
mutual
def uptoBulk {H : Type} : DataW H → Nat
  | .lit (.string bytes) => bytes.length + 1
  | .lit _ => 1
  | .nil => 1
  | .ptr d => uptoBulk d + 1
  | .slice elems spare => uptoBulkAll elems + uptoBulkAll spare + 1
  | .agg parts => uptoBulkAll parts + 1
  | .iface _ d => uptoBulk d + 1
  | .map entries => uptoBulkEntries entries + 1
  | .held _ => 1
def uptoBulkAll {H : Type} : List (DataW H) → Nat
  | [] => 0
  | d :: r => uptoBulk d + uptoBulkAll r
def uptoBulkEntries {H : Type} : List (Lit × DataW H) → Nat
  | [] => 0
  | x :: r => uptoBulkEntry x + uptoBulkEntries r
def uptoBulkEntry {H : Type} : Lit × DataW H → Nat
  | (.string bytes, d) => bytes.length + uptoBulk d + 1
  | (_, d) => uptoBulk d + 1
 end
def uptoSmall : (H : Type) → List (DataW H) → Bool := fun _ ds => decide (uptoBulkAll ds ≤ 1048576)
def OpenSpec.upto (s : _root_.Go.ChangeSpec) : _root_.Go.OpenSpec := { _root_.Go.OpenSpec.ofChange s with cond := some uptoSmall }

/-- 'escheatlaw17.TailSees', WHERE WHAT IT READS IS OF BULK AT MOST 1048576: true; the input reads as it did. -/
def tailSeesUptoRow : OpenClaim := { program := "ytchhmfdalghgcaagreat", sum := "c3d71217d4489858209598dc0551fbd0e5932bb49b83dfff0c2a553697183ab2", func := "escheat/escheatlaw17.TailSees", spec := "tailSees", unfollowed := true, recurses := true, plainKeys := false, apart := false, narrowed := true }
def TailSeesUptoSaid : Prop := tailSeesUptoRow.holds Tryz.pinned (OpenSpec.upto tailSeesSpec)

/-- 'escheatlaw17.TailMoves', WHERE WHAT IT READS IS OF BULK AT MOST 1048576: true; the input reads as it did. -/
def tailMovesUptoRow : OpenClaim := { program := "ytchhmfdalghgcaagreat", sum := "c3d71217d4489858209598dc0551fbd0e5932bb49b83dfff0c2a553697183ab2", func := "escheat/escheatlaw17.TailMoves", spec := "tailMoves", unfollowed := true, recurses := true, plainKeys := false, apart := false, narrowed := true }
def TailMovesUptoSaid : Prop := tailMovesUptoRow.holds Tryz.pinned (OpenSpec.upto tailMovesSpec)

/-- 'escheatlaw17.TailNone', WHERE WHAT IT READS IS OF BULK AT MOST 1048576: true; the input reads as it did. -/
def tailNoneUptoRow : OpenClaim := { program := "ytchhmfdalghgcaagreat", sum := "c3d71217d4489858209598dc0551fbd0e5932bb49b83dfff0c2a553697183ab2", func := "escheat/escheatlaw17.TailNone", spec := "tailNone", unfollowed := true, recurses := true, plainKeys := false, apart := false, narrowed := true }
def TailNoneUptoSaid : Prop := tailNoneUptoRow.holds Tryz.pinned (OpenSpec.upto tailNoneSpec)

end Rows
end Go.Proofs.YtchhmfdalghgcaaGreat
