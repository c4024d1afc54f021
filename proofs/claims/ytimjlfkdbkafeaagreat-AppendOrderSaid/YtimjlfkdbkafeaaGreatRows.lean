/-
  No cell of these rows narrows 'for every input' (looked for: loops, veiled, ifaces, maps, wideKeys, modest, calm, conditions, laid).
  DERIVED. THE GIVEN ROWS OF THIS SEAT. 4 by the template 'for every input the law returns true; each argument reads behind the call as it read before'; 0 by the template 'total and deterministic' (their statements: YtimjlfkdbkafeaaGreatTotals.lean).
  GIVEN WITH THE SEED: the statements are not yours to turn. If you find one false, say at which input.
  Laid BY PROGRAM, IN A SANDBOX (cutbox-rows.mjs): the forced cells as the released guide's own fill.sh prints them over the translation 356863aaf90b16f6… (all of the seat's roots in one cut). By AI agents, Wed Nov 11 2026. No macro, syntax, notation, axiom, sorry.
-/
import Derived.Test.YtimjlfkdbkafeaaGreatChecked
import GoSem.Claim
import GoSem.ClaimJoined
import GoSem.ClaimMapViews
import Derived.JoinedTies
import Derived.KernelRfl
namespace Go.Proofs.YtimjlfkdbkafeaaGreat
/- THE CELL 'sum', in the pinned program and in every row, IS THE sha256 OF THE DUMP (.gsa) THAT YtimjlfkdbkafeaaGreatProg.lean LOADS. Nothing in Lean hashes anything: it is a label: what it is worth is what the hold of that sum in a sandbox is worth. -/
noncomputable def Tryz.pinned : Pinned := { name := "ytimjlfkdbkafeaagreat", sum := "356863aaf90b16f6a9479e813e0ca6f764530cb9d65b2062ea304a3479afcc47", checked := Tryz.checked }
namespace Rows
def none {H : Type} : Left H := { results := [], args := [] }

/-- 'escheatlaw15.AppendEnds': WHATEVER THE INPUT: true; the input reads as it did. -/
def appendEndsSpec : ChangeSpec := { name := "appendEnds", fn := fun _ => fun
  | [d1, d2, d3] => { results := [.lit (.bool true)], args := [d1, d2, d3] }
  | _ => none }
def appendEndsRow : OpenClaim := { program := "ytimjlfkdbkafeaagreat", sum := "356863aaf90b16f6a9479e813e0ca6f764530cb9d65b2062ea304a3479afcc47", func := "escheat/escheatlaw15.AppendEnds", spec := "appendEnds", unfollowed := true, recurses := true, plainKeys := false, apart := false }
def AppendEndsSaid : Prop := appendEndsRow.holds Tryz.pinned (OpenSpec.ofChange appendEndsSpec)

/-- ITS FALSE NEIGHBOUR: 'it returns false'. Refute it at one input. -/
def appendEndsWrong : ChangeSpec := { name := "appendEnds", fn := fun _ => fun
  | [d1, d2, d3] => { results := [.lit (.bool false)], args := [d1, d2, d3] }
  | _ => none }
def AppendEndsWrongFalsely : Prop := appendEndsRow.holds Tryz.pinned (OpenSpec.ofChange appendEndsWrong)

/-- 'escheatlaw15.AppendOrder': WHATEVER THE INPUT: true; the input reads as it did. -/
def appendOrderSpec : ChangeSpec := { name := "appendOrder", fn := fun _ => fun
  | [d1, d2] => { results := [.lit (.bool true)], args := [d1, d2] }
  | _ => none }
def appendOrderRow : OpenClaim := { program := "ytimjlfkdbkafeaagreat", sum := "356863aaf90b16f6a9479e813e0ca6f764530cb9d65b2062ea304a3479afcc47", func := "escheat/escheatlaw15.AppendOrder", spec := "appendOrder", unfollowed := true, recurses := true, plainKeys := false, apart := false }
def AppendOrderSaid : Prop := appendOrderRow.holds Tryz.pinned (OpenSpec.ofChange appendOrderSpec)

/-- ITS FALSE NEIGHBOUR: 'it returns false'. Refute it at one input. -/
def appendOrderWrong : ChangeSpec := { name := "appendOrder", fn := fun _ => fun
  | [d1, d2] => { results := [.lit (.bool false)], args := [d1, d2] }
  | _ => none }
def AppendOrderWrongFalsely : Prop := appendOrderRow.holds Tryz.pinned (OpenSpec.ofChange appendOrderWrong)

/-- 'escheatlaw15.AppendFull': WHATEVER THE INPUT: true; the input reads as it did. -/
def appendFullSpec : ChangeSpec := { name := "appendFull", fn := fun _ => fun
  | [d1, d2] => { results := [.lit (.bool true)], args := [d1, d2] }
  | _ => none }
def appendFullRow : OpenClaim := { program := "ytimjlfkdbkafeaagreat", sum := "356863aaf90b16f6a9479e813e0ca6f764530cb9d65b2062ea304a3479afcc47", func := "escheat/escheatlaw15.AppendFull", spec := "appendFull", unfollowed := true, recurses := true, plainKeys := false, apart := false }
def AppendFullSaid : Prop := appendFullRow.holds Tryz.pinned (OpenSpec.ofChange appendFullSpec)

/-- ITS FALSE NEIGHBOUR: 'it returns false'. Refute it at one input. -/
def appendFullWrong : ChangeSpec := { name := "appendFull", fn := fun _ => fun
  | [d1, d2] => { results := [.lit (.bool false)], args := [d1, d2] }
  | _ => none }
def AppendFullWrongFalsely : Prop := appendFullRow.holds Tryz.pinned (OpenSpec.ofChange appendFullWrong)

/-- 'escheatlaw15.AppendNone': WHATEVER THE INPUT: true; the input reads as it did. -/
def appendNoneSpec : ChangeSpec := { name := "appendNone", fn := fun _ => fun
  | [d1, d2] => { results := [.lit (.bool true)], args := [d1, d2] }
  | _ => none }
def appendNoneRow : OpenClaim := { program := "ytimjlfkdbkafeaagreat", sum := "356863aaf90b16f6a9479e813e0ca6f764530cb9d65b2062ea304a3479afcc47", func := "escheat/escheatlaw15.AppendNone", spec := "appendNone", unfollowed := true, recurses := true, plainKeys := false, apart := false }
def AppendNoneSaid : Prop := appendNoneRow.holds Tryz.pinned (OpenSpec.ofChange appendNoneSpec)

/-- ITS FALSE NEIGHBOUR: 'it returns false'. Refute it at one input. -/
def appendNoneWrong : ChangeSpec := { name := "appendNone", fn := fun _ => fun
  | [d1, d2] => { results := [.lit (.bool false)], args := [d1, d2] }
  | _ => none }
def AppendNoneWrongFalsely : Prop := appendNoneRow.holds Tryz.pinned (OpenSpec.ofChange appendNoneWrong)

/- THE SECOND FORM. 'bulk': how many values and letters a reading holds, each counted each time it is reached (what is shared counts as often as it is met; a slice's spare places count too). A statement '..UptoSaid' is the law's where the arguments, and the package variables that the reading takes, are together of bulk at most 1048576: NARROWER than '..Said'. Prove '..Said' where nothing that the law and all that it calls make is longer than what came in: it says more and counts as full. Else prove '..UptoSaid'. A law counts once. -/
mutual
def uptoBulk {H : Type} : DataW H → Nat
  | .lit (.string bytes) => bytes.length + 1
  | .lit _ => 1
  | .nil => 1
  | .ptr d => uptoBulk d + 1
  | .slice elems spare => uptoBulkAll elems + uptoBulkAll spare + 1
  | .agg parts => uptoBulkAll parts + 1
  | .iface _ d => uptoBulk d + 1
  | .map entries => uptoBulkEntries entries + 1
  | .held _ => 1
def uptoBulkAll {H : Type} : List (DataW H) → Nat
  | [] => 0
  | d :: r => uptoBulk d + uptoBulkAll r
def uptoBulkEntries {H : Type} : List (Lit × DataW H) → Nat
  | [] => 0
  | x :: r => uptoBulkEntry x + uptoBulkEntries r
def uptoBulkEntry {H : Type} : Lit × DataW H → Nat
  | (.string bytes, d) => bytes.length + uptoBulk d + 1
  | (_, d) => uptoBulk d + 1
 end
def uptoSmall : (H : Type) → List (DataW H) → Bool := fun _ ds => decide (uptoBulkAll ds ≤ 1048576)
def OpenSpec.upto (s : _root_.Go.ChangeSpec) : _root_.Go.OpenSpec := { _root_.Go.OpenSpec.ofChange s with cond := some uptoSmall }

/-- 'escheatlaw15.AppendEnds', WHERE WHAT IT READS IS OF BULK AT MOST 1048576: true; the input reads as it did. -/
def appendEndsUptoRow : OpenClaim := { program := "ytimjlfkdbkafeaagreat", sum := "356863aaf90b16f6a9479e813e0ca6f764530cb9d65b2062ea304a3479afcc47", func := "escheat/escheatlaw15.AppendEnds", spec := "appendEnds", unfollowed := true, recurses := true, plainKeys := false, apart := false, narrowed := true }
def AppendEndsUptoSaid : Prop := appendEndsUptoRow.holds Tryz.pinned (OpenSpec.upto appendEndsSpec)

/-- 'escheatlaw15.AppendOrder', WHERE WHAT IT READS IS OF BULK AT MOST 1048576: true; the input reads as it did. -/
def appendOrderUptoRow : OpenClaim := { program := "ytimjlfkdbkafeaagreat", sum := "356863aaf90b16f6a9479e813e0ca6f764530cb9d65b2062ea304a3479afcc47", func := "escheat/escheatlaw15.AppendOrder", spec := "appendOrder", unfollowed := true, recurses := true, plainKeys := false, apart := false, narrowed := true }
def AppendOrderUptoSaid : Prop := appendOrderUptoRow.holds Tryz.pinned (OpenSpec.upto appendOrderSpec)

/-- 'escheatlaw15.AppendFull', WHERE WHAT IT READS IS OF BULK AT MOST 1048576: true; the input reads as it did. -/
def appendFullUptoRow : OpenClaim := { program := "ytimjlfkdbkafeaagreat", sum := "356863aaf90b16f6a9479e813e0ca6f764530cb9d65b2062ea304a3479afcc47", func := "escheat/escheatlaw15.AppendFull", spec := "appendFull", unfollowed := true, recurses := true, plainKeys := false, apart := false, narrowed := true }
def AppendFullUptoSaid : Prop := appendFullUptoRow.holds Tryz.pinned (OpenSpec.upto appendFullSpec)

/-- 'escheatlaw15.AppendNone', WHERE WHAT IT READS IS OF BULK AT MOST 1048576: true; the input reads as it did. -/
def appendNoneUptoRow : OpenClaim := { program := "ytimjlfkdbkafeaagreat", sum := "356863aaf90b16f6a9479e813e0ca6f764530cb9d65b2062ea304a3479afcc47", func := "escheat/escheatlaw15.AppendNone", spec := "appendNone", unfollowed := true, recurses := true, plainKeys := false, apart := false, narrowed := true }
def AppendNoneUptoSaid : Prop := appendNoneUptoRow.holds Tryz.pinned (OpenSpec.upto appendNoneSpec)

end Rows
end Go.Proofs.YtimjlfkdbkafeaaGreat
