/-
  No cell of these rows narrows 'for every input' (looked for: loops, veiled, ifaces, maps, wideKeys, modest, calm, conditions, laid).
  DERIVED. THE GIVEN ROWS OF THIS SEAT. 3 by the template 'for every input the law returns true; each argument reads behind the call as it read before'; 0 by the template 'total and deterministic' (their statements: YthfbefkddnbbcaaTotals.lean).
  GIVEN WITH THE SEED: the statements are not yours to turn. If you find one false, say at which input.
  Laid BY PROGRAM, IN A SANDBOX (cutbox-rows.mjs): the forced cells as the released guide's own fill.sh prints them over the translation d7ecfa03eab89a12… (all of the seat's roots in one cut). By AI agents, Wed Nov 11 2026. No macro, syntax, notation, axiom, sorry.
-/
import Derived.Test.YthfbefkddnbbcaaChecked
import GoSem.Claim
import GoSem.ClaimJoined
import GoSem.ClaimMapViews
import Derived.JoinedTies
import Derived.KernelRfl
namespace Go.Proofs.Ythfbefkddnbbcaa
/- THE CELL 'sum', in the pinned program and in every row, IS THE sha256 OF THE DUMP (.gsa) THAT YthfbefkddnbbcaaProg.lean LOADS. Nothing in Lean hashes anything: it is a label: what it is worth is what the hold of that sum in a sandbox is worth. -/
noncomputable def Try.pinned : Pinned := { name := "ythfbefkddnbbcaa", sum := "d7ecfa03eab89a12df96f4d46a7925edd6160d66f2b3692d0ef79dc68e8057fa", checked := Try.checked }
namespace Rows
def none {H : Type} : Left H := { results := [], args := [] }

/-- 'escheatlaw12.LayoutPlays': WHATEVER THE INPUT: true; the input reads as it did. -/
def layoutPlaysSpec : ChangeSpec := { name := "layoutPlays", fn := fun _ => fun
  | [d1, d2] => { results := [.lit (.bool true)], args := [d1, d2] }
  | _ => none }
def layoutPlaysRow : OpenClaim := { program := "ythfbefkddnbbcaa", sum := "d7ecfa03eab89a12df96f4d46a7925edd6160d66f2b3692d0ef79dc68e8057fa", func := "escheat/escheatlaw12.LayoutPlays", spec := "layoutPlays", unfollowed := true, recurses := true, plainKeys := false, apart := false }
def LayoutPlaysSaid : Prop := layoutPlaysRow.holds Try.pinned (OpenSpec.ofChange layoutPlaysSpec)

/-- ITS FALSE NEIGHBOUR: 'it returns false'. Refute it at one input. -/
def layoutPlaysWrong : ChangeSpec := { name := "layoutPlays", fn := fun _ => fun
  | [d1, d2] => { results := [.lit (.bool false)], args := [d1, d2] }
  | _ => none }
def LayoutPlaysWrongFalsely : Prop := layoutPlaysRow.holds Try.pinned (OpenSpec.ofChange layoutPlaysWrong)

/-- 'escheatlaw12.LayoutRises': WHATEVER THE INPUT: true; the input reads as it did. -/
def layoutRisesSpec : ChangeSpec := { name := "layoutRises", fn := fun _ => fun
  | [d1, d2] => { results := [.lit (.bool true)], args := [d1, d2] }
  | _ => none }
def layoutRisesRow : OpenClaim := { program := "ythfbefkddnbbcaa", sum := "d7ecfa03eab89a12df96f4d46a7925edd6160d66f2b3692d0ef79dc68e8057fa", func := "escheat/escheatlaw12.LayoutRises", spec := "layoutRises", unfollowed := true, recurses := true, plainKeys := false, apart := false }
def LayoutRisesSaid : Prop := layoutRisesRow.holds Try.pinned (OpenSpec.ofChange layoutRisesSpec)

/-- ITS FALSE NEIGHBOUR: 'it returns false'. Refute it at one input. -/
def layoutRisesWrong : ChangeSpec := { name := "layoutRises", fn := fun _ => fun
  | [d1, d2] => { results := [.lit (.bool false)], args := [d1, d2] }
  | _ => none }
def LayoutRisesWrongFalsely : Prop := layoutRisesRow.holds Try.pinned (OpenSpec.ofChange layoutRisesWrong)

/-- 'escheatlaw12.LayoutNone': WHATEVER THE INPUT: true; the input reads as it did. -/
def layoutNoneSpec : ChangeSpec := { name := "layoutNone", fn := fun _ => fun
  | [d] => { results := [.lit (.bool true)], args := [d] }
  | _ => none }
def layoutNoneRow : OpenClaim := { program := "ythfbefkddnbbcaa", sum := "d7ecfa03eab89a12df96f4d46a7925edd6160d66f2b3692d0ef79dc68e8057fa", func := "escheat/escheatlaw12.LayoutNone", spec := "layoutNone", unfollowed := true, recurses := true, plainKeys := false, apart := false }
def LayoutNoneSaid : Prop := layoutNoneRow.holds Try.pinned (OpenSpec.ofChange layoutNoneSpec)

/-- ITS FALSE NEIGHBOUR: 'it returns false'. Refute it at one input. -/
def layoutNoneWrong : ChangeSpec := { name := "layoutNone", fn := fun _ => fun
  | [d] => { results := [.lit (.bool false)], args := [d] }
  | _ => none }
def LayoutNoneWrongFalsely : Prop := layoutNoneRow.holds Try.pinned (OpenSpec.ofChange layoutNoneWrong)

/- THE SECOND FORM. 'bulk': how many values and letters a reading holds, each counted each time it is reached (what is shared counts as often as it is met; a slice's spare places count too). A statement '..UptoSaid' is the law's where the arguments, and the package variables that the reading takes, are together of bulk at most 1048576: NARROWER than '..Said'. Prove '..Said' where nothing that the law and all that it calls make is longer than what came in: it says more and counts as full. Else prove '..UptoSaid'. A law counts once. -/
mutual
def uptoBulk {H : Type} : DataW H → Nat
  | .lit (.string bytes) => bytes.length + 1
  | .lit _ => 1
  | .nil => 1
  | .ptr d => uptoBulk d + 1
  | .slice elems spare => uptoBulkAll elems + uptoBulkAll spare + 1
  | .agg parts => uptoBulkAll parts + 1
  | .iface _ d => uptoBulk d + 1
  | .map entries => uptoBulkEntries entries + 1
  | .held _ => 1
def uptoBulkAll {H : Type} : List (DataW H) → Nat
  | [] => 0
  | d :: r => uptoBulk d + uptoBulkAll r
def uptoBulkEntries {H : Type} : List (Lit × DataW H) → Nat
  | [] => 0
  | x :: r => uptoBulkEntry x + uptoBulkEntries r
def uptoBulkEntry {H : Type} : Lit × DataW H → Nat
  | (.string bytes, d) => bytes.length + uptoBulk d + 1
  | (_, d) => uptoBulk d + 1
 end
def uptoSmall : (H : Type) → List (DataW H) → Bool := fun _ ds => decide (uptoBulkAll ds ≤ 1048576)
def OpenSpec.upto (s : _root_.Go.ChangeSpec) : _root_.Go.OpenSpec := { _root_.Go.OpenSpec.ofChange s with cond := some uptoSmall }

/-- 'escheatlaw12.LayoutPlays', WHERE WHAT IT READS IS OF BULK AT MOST 1048576: true; the input reads as it did. -/
def layoutPlaysUptoRow : OpenClaim := { program := "ythfbefkddnbbcaa", sum := "d7ecfa03eab89a12df96f4d46a7925edd6160d66f2b3692d0ef79dc68e8057fa", func := "escheat/escheatlaw12.LayoutPlays", spec := "layoutPlays", unfollowed := true, recurses := true, plainKeys := false, apart := false, narrowed := true }
def LayoutPlaysUptoSaid : Prop := layoutPlaysUptoRow.holds Try.pinned (OpenSpec.upto layoutPlaysSpec)

/-- 'escheatlaw12.LayoutRises', WHERE WHAT IT READS IS OF BULK AT MOST 1048576: true; the input reads as it did. -/
def layoutRisesUptoRow : OpenClaim := { program := "ythfbefkddnbbcaa", sum := "d7ecfa03eab89a12df96f4d46a7925edd6160d66f2b3692d0ef79dc68e8057fa", func := "escheat/escheatlaw12.LayoutRises", spec := "layoutRises", unfollowed := true, recurses := true, plainKeys := false, apart := false, narrowed := true }
def LayoutRisesUptoSaid : Prop := layoutRisesUptoRow.holds Try.pinned (OpenSpec.upto layoutRisesSpec)

/-- 'escheatlaw12.LayoutNone', WHERE WHAT IT READS IS OF BULK AT MOST 1048576: true; the input reads as it did. -/
def layoutNoneUptoRow : OpenClaim := { program := "ythfbefkddnbbcaa", sum := "d7ecfa03eab89a12df96f4d46a7925edd6160d66f2b3692d0ef79dc68e8057fa", func := "escheat/escheatlaw12.LayoutNone", spec := "layoutNone", unfollowed := true, recurses := true, plainKeys := false, apart := false, narrowed := true }
def LayoutNoneUptoSaid : Prop := layoutNoneUptoRow.holds Try.pinned (OpenSpec.upto layoutNoneSpec)

end Rows
end Go.Proofs.Ythfbefkddnbbcaa
