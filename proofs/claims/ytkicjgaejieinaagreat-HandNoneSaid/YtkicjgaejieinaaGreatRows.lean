/-
  No cell of these rows narrows 'for every input' (looked for: loops, veiled, ifaces, maps, wideKeys, modest, calm, conditions, laid).
  DERIVED. THE GIVEN ROWS OF THIS SEAT. 4 by the template 'for every input the law returns true; each argument reads behind the call as it read before'; 0 by the template 'total and deterministic' (their statements: YtkicjgaejieinaaGreatTotals.lean).
  GIVEN WITH THE SEED: the statements are not yours to turn. If you find one false, say at which input.
  Laid BY PROGRAM, IN A SANDBOX (cutbox-rows.mjs): the forced cells as the released guide's own fill.sh prints them over the translation d315e3a02bdc822d… (all of the seat's roots in one cut). By AI agents, Wed Nov 11 2026. No macro, syntax, notation, axiom, sorry.
-/
import Derived.Test.YtkicjgaejieinaaGreatChecked
import GoSem.Claim
import GoSem.ClaimJoined
import GoSem.ClaimMapViews
import Derived.JoinedTies
import Derived.KernelRfl
namespace Go.Proofs.YtkicjgaejieinaaGreat
/- THE CELL 'sum', in the pinned program and in every row, IS THE sha256 OF THE DUMP (.gsa) THAT YtkicjgaejieinaaGreatProg.lean LOADS. Nothing in Lean hashes anything: it is a label: what it is worth is what the hold of that sum in a sandbox is worth. -/
noncomputable def Tryz.pinned : Pinned := { name := "ytkicjgaejieinaagreat", sum := "d315e3a02bdc822d97dd17b364bfb8b8ba9d654a5104af21c41835b3c5dbf4df", checked := Tryz.checked }
namespace Rows
def none {H : Type} : Left H := { results := [], args := [] }

/-- 'escheatlaw14.HandPlays': WHATEVER THE INPUT: true; the input reads as it did. -/
def handPlaysSpec : ChangeSpec := { name := "handPlays", fn := fun _ => fun
  | [d1, d2] => { results := [.lit (.bool true)], args := [d1, d2] }
  | _ => none }
def handPlaysRow : OpenClaim := { program := "ytkicjgaejieinaagreat", sum := "d315e3a02bdc822d97dd17b364bfb8b8ba9d654a5104af21c41835b3c5dbf4df", func := "escheat/escheatlaw14.HandPlays", spec := "handPlays", unfollowed := true, recurses := true, plainKeys := false, apart := false }
def HandPlaysSaid : Prop := handPlaysRow.holds Tryz.pinned (OpenSpec.ofChange handPlaysSpec)

/-- ITS FALSE NEIGHBOUR: 'it returns false'. Refute it at one input. -/
def handPlaysWrong : ChangeSpec := { name := "handPlays", fn := fun _ => fun
  | [d1, d2] => { results := [.lit (.bool false)], args := [d1, d2] }
  | _ => none }
def HandPlaysWrongFalsely : Prop := handPlaysRow.holds Tryz.pinned (OpenSpec.ofChange handPlaysWrong)

/-- 'escheatlaw14.HandOnce': WHATEVER THE INPUT: true; the input reads as it did. -/
def handOnceSpec : ChangeSpec := { name := "handOnce", fn := fun _ => fun
  | [d1, d2] => { results := [.lit (.bool true)], args := [d1, d2] }
  | _ => none }
def handOnceRow : OpenClaim := { program := "ytkicjgaejieinaagreat", sum := "d315e3a02bdc822d97dd17b364bfb8b8ba9d654a5104af21c41835b3c5dbf4df", func := "escheat/escheatlaw14.HandOnce", spec := "handOnce", unfollowed := true, recurses := true, plainKeys := false, apart := false }
def HandOnceSaid : Prop := handOnceRow.holds Tryz.pinned (OpenSpec.ofChange handOnceSpec)

/-- ITS FALSE NEIGHBOUR: 'it returns false'. Refute it at one input. -/
def handOnceWrong : ChangeSpec := { name := "handOnce", fn := fun _ => fun
  | [d1, d2] => { results := [.lit (.bool false)], args := [d1, d2] }
  | _ => none }
def HandOnceWrongFalsely : Prop := handOnceRow.holds Tryz.pinned (OpenSpec.ofChange handOnceWrong)

/-- 'escheatlaw14.HandMost': WHATEVER THE INPUT: true; the input reads as it did. -/
def handMostSpec : ChangeSpec := { name := "handMost", fn := fun _ => fun
  | [d] => { results := [.lit (.bool true)], args := [d] }
  | _ => none }
def handMostRow : OpenClaim := { program := "ytkicjgaejieinaagreat", sum := "d315e3a02bdc822d97dd17b364bfb8b8ba9d654a5104af21c41835b3c5dbf4df", func := "escheat/escheatlaw14.HandMost", spec := "handMost", unfollowed := true, recurses := true, plainKeys := false, apart := false }
def HandMostSaid : Prop := handMostRow.holds Tryz.pinned (OpenSpec.ofChange handMostSpec)

/-- ITS FALSE NEIGHBOUR: 'it returns false'. Refute it at one input. -/
def handMostWrong : ChangeSpec := { name := "handMost", fn := fun _ => fun
  | [d] => { results := [.lit (.bool false)], args := [d] }
  | _ => none }
def HandMostWrongFalsely : Prop := handMostRow.holds Tryz.pinned (OpenSpec.ofChange handMostWrong)

/-- 'escheatlaw14.HandNone': WHATEVER THE INPUT: true; the input reads as it did. -/
def handNoneSpec : ChangeSpec := { name := "handNone", fn := fun _ => fun
  | [d1, d2] => { results := [.lit (.bool true)], args := [d1, d2] }
  | _ => none }
def handNoneRow : OpenClaim := { program := "ytkicjgaejieinaagreat", sum := "d315e3a02bdc822d97dd17b364bfb8b8ba9d654a5104af21c41835b3c5dbf4df", func := "escheat/escheatlaw14.HandNone", spec := "handNone", unfollowed := true, recurses := true, plainKeys := false, apart := false }
def HandNoneSaid : Prop := handNoneRow.holds Tryz.pinned (OpenSpec.ofChange handNoneSpec)

/-- ITS FALSE NEIGHBOUR: 'it returns false'. Refute it at one input. -/
def handNoneWrong : ChangeSpec := { name := "handNone", fn := fun _ => fun
  | [d1, d2] => { results := [.lit (.bool false)], args := [d1, d2] }
  | _ => none }
def HandNoneWrongFalsely : Prop := handNoneRow.holds Tryz.pinned (OpenSpec.ofChange handNoneWrong)

/- THE SECOND FORM. 'bulk': how many values and letters a reading holds, each counted each time it is reached (what is shared counts as often as it is met; a slice's spare places count too). A statement '..UptoSaid' is the law's where the arguments, and the package variables that the reading takes, are together of bulk at most 1048576: NARROWER than '..Said'. Prove '..Said' where nothing that the law and all that it calls make is longer than what came in: it says more and counts as full. Else prove '..UptoSaid'. A law counts once. -/
mutual
def uptoBulk {H : Type} : DataW H → Nat
  | .lit (.string bytes) => bytes.length + 1
  | .lit _ => 1
  | .nil => 1
  | .ptr d => uptoBulk d + 1
  | .slice elems spare => uptoBulkAll elems + uptoBulkAll spare + 1
  | .agg parts => uptoBulkAll parts + 1
  | .iface _ d => uptoBulk d + 1
  | .map entries => uptoBulkEntries entries + 1
  | .held _ => 1
def uptoBulkAll {H : Type} : List (DataW H) → Nat
  | [] => 0
  | d :: r => uptoBulk d + uptoBulkAll r
def uptoBulkEntries {H : Type} : List (Lit × DataW H) → Nat
  | [] => 0
  | x :: r => uptoBulkEntry x + uptoBulkEntries r
def uptoBulkEntry {H : Type} : Lit × DataW H → Nat
  | (.string bytes, d) => bytes.length + uptoBulk d + 1
  | (_, d) => uptoBulk d + 1
 end
def uptoSmall : (H : Type) → List (DataW H) → Bool := fun _ ds => decide (uptoBulkAll ds ≤ 1048576)
def OpenSpec.upto (s : _root_.Go.ChangeSpec) : _root_.Go.OpenSpec := { _root_.Go.OpenSpec.ofChange s with cond := some uptoSmall }

/-- 'escheatlaw14.HandPlays', WHERE WHAT IT READS IS OF BULK AT MOST 1048576: true; the input reads as it did. -/
def handPlaysUptoRow : OpenClaim := { program := "ytkicjgaejieinaagreat", sum := "d315e3a02bdc822d97dd17b364bfb8b8ba9d654a5104af21c41835b3c5dbf4df", func := "escheat/escheatlaw14.HandPlays", spec := "handPlays", unfollowed := true, recurses := true, plainKeys := false, apart := false, narrowed := true }
def HandPlaysUptoSaid : Prop := handPlaysUptoRow.holds Tryz.pinned (OpenSpec.upto handPlaysSpec)

/-- 'escheatlaw14.HandOnce', WHERE WHAT IT READS IS OF BULK AT MOST 1048576: true; the input reads as it did. -/
def handOnceUptoRow : OpenClaim := { program := "ytkicjgaejieinaagreat", sum := "d315e3a02bdc822d97dd17b364bfb8b8ba9d654a5104af21c41835b3c5dbf4df", func := "escheat/escheatlaw14.HandOnce", spec := "handOnce", unfollowed := true, recurses := true, plainKeys := false, apart := false, narrowed := true }
def HandOnceUptoSaid : Prop := handOnceUptoRow.holds Tryz.pinned (OpenSpec.upto handOnceSpec)

/-- 'escheatlaw14.HandMost', WHERE WHAT IT READS IS OF BULK AT MOST 1048576: true; the input reads as it did. -/
def handMostUptoRow : OpenClaim := { program := "ytkicjgaejieinaagreat", sum := "d315e3a02bdc822d97dd17b364bfb8b8ba9d654a5104af21c41835b3c5dbf4df", func := "escheat/escheatlaw14.HandMost", spec := "handMost", unfollowed := true, recurses := true, plainKeys := false, apart := false, narrowed := true }
def HandMostUptoSaid : Prop := handMostUptoRow.holds Tryz.pinned (OpenSpec.upto handMostSpec)

/-- 'escheatlaw14.HandNone', WHERE WHAT IT READS IS OF BULK AT MOST 1048576: true; the input reads as it did. -/
def handNoneUptoRow : OpenClaim := { program := "ytkicjgaejieinaagreat", sum := "d315e3a02bdc822d97dd17b364bfb8b8ba9d654a5104af21c41835b3c5dbf4df", func := "escheat/escheatlaw14.HandNone", spec := "handNone", unfollowed := true, recurses := true, plainKeys := false, apart := false, narrowed := true }
def HandNoneUptoSaid : Prop := handNoneUptoRow.holds Tryz.pinned (OpenSpec.upto handNoneSpec)

end Rows
end Go.Proofs.YtkicjgaejieinaaGreat
