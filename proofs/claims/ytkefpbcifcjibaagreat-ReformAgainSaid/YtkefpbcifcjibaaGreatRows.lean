/-
  No cell of these rows narrows 'for every input' (looked for: loops, veiled, ifaces, maps, wideKeys, modest, calm, conditions, laid).
  DERIVED. THE GIVEN ROWS OF THIS SEAT. 5 by the template 'for every input the law returns true; each argument reads behind the call as it read before'; 0 by the template 'total and deterministic' (their statements: YtkefpbcifcjibaaGreatTotals.lean).
  GIVEN WITH THE SEED: the statements are not yours to turn. If you find one false, say at which input.
  Laid BY PROGRAM, IN A SANDBOX (cutbox-rows.mjs): the forced cells as the released guide's own fill.sh prints them over the translation d5bb9987cc9a87ad… (all of the seat's roots in one cut). By AI agents, Wed Nov 11 2026. No macro, syntax, notation, axiom, sorry.
-/
import Derived.Test.YtkefpbcifcjibaaGreatChecked
import GoSem.Claim
import GoSem.ClaimJoined
import GoSem.ClaimMapViews
import Derived.JoinedTies
import Derived.KernelRfl
namespace Go.Proofs.YtkefpbcifcjibaaGreat
/- THE CELL 'sum', in the pinned program and in every row, IS THE sha256 OF THE DUMP (.gsa) THAT YtkefpbcifcjibaaGreatProg.lean LOADS. Nothing in Lean hashes anything: it is a label: what it is worth is what the hold of that sum in a sandbox is worth. -/
noncomputable def Tryz.pinned : Pinned := { name := "ytkefpbcifcjibaagreat", sum := "d5bb9987cc9a87adc8726a638bc027e1fdc5c9eddb23b5f325a94984524f66cb", checked := Tryz.checked }
namespace Rows
def none {H : Type} : Left H := { results := [], args := [] }

/-- 'escheatlaw18.ReformHears': WHATEVER THE INPUT: true; the input reads as it did. -/
def reformHearsSpec : ChangeSpec := { name := "reformHears", fn := fun _ => fun
  | [d1, d2] => { results := [.lit (.bool true)], args := [d1, d2] }
  | _ => none }
def reformHearsRow : OpenClaim := { program := "ytkefpbcifcjibaagreat", sum := "d5bb9987cc9a87adc8726a638bc027e1fdc5c9eddb23b5f325a94984524f66cb", func := "escheat/escheatlaw18.ReformHears", spec := "reformHears", unfollowed := true, recurses := true, plainKeys := false, apart := false }
def ReformHearsSaid : Prop := reformHearsRow.holds Tryz.pinned (OpenSpec.ofChange reformHearsSpec)

/-- ITS FALSE NEIGHBOUR: 'it returns false'. Refute it at one input. -/
def reformHearsWrong : ChangeSpec := { name := "reformHears", fn := fun _ => fun
  | [d1, d2] => { results := [.lit (.bool false)], args := [d1, d2] }
  | _ => none }
def ReformHearsWrongFalsely : Prop := reformHearsRow.holds Tryz.pinned (OpenSpec.ofChange reformHearsWrong)

/-- 'escheatlaw18.ReformKeeps': WHATEVER THE INPUT: true; the input reads as it did. -/
def reformKeepsSpec : ChangeSpec := { name := "reformKeeps", fn := fun _ => fun
  | [d1, d2, d3] => { results := [.lit (.bool true)], args := [d1, d2, d3] }
  | _ => none }
def reformKeepsRow : OpenClaim := { program := "ytkefpbcifcjibaagreat", sum := "d5bb9987cc9a87adc8726a638bc027e1fdc5c9eddb23b5f325a94984524f66cb", func := "escheat/escheatlaw18.ReformKeeps", spec := "reformKeeps", unfollowed := true, recurses := true, plainKeys := false, apart := false }
def ReformKeepsSaid : Prop := reformKeepsRow.holds Tryz.pinned (OpenSpec.ofChange reformKeepsSpec)

/-- ITS FALSE NEIGHBOUR: 'it returns false'. Refute it at one input. -/
def reformKeepsWrong : ChangeSpec := { name := "reformKeeps", fn := fun _ => fun
  | [d1, d2, d3] => { results := [.lit (.bool false)], args := [d1, d2, d3] }
  | _ => none }
def ReformKeepsWrongFalsely : Prop := reformKeepsRow.holds Tryz.pinned (OpenSpec.ofChange reformKeepsWrong)

/-- 'escheatlaw18.ReformHalf': WHATEVER THE INPUT: true; the input reads as it did. -/
def reformHalfSpec : ChangeSpec := { name := "reformHalf", fn := fun _ => fun
  | [d1, d2, d3] => { results := [.lit (.bool true)], args := [d1, d2, d3] }
  | _ => none }
def reformHalfRow : OpenClaim := { program := "ytkefpbcifcjibaagreat", sum := "d5bb9987cc9a87adc8726a638bc027e1fdc5c9eddb23b5f325a94984524f66cb", func := "escheat/escheatlaw18.ReformHalf", spec := "reformHalf", unfollowed := true, recurses := true, plainKeys := false, apart := false }
def ReformHalfSaid : Prop := reformHalfRow.holds Tryz.pinned (OpenSpec.ofChange reformHalfSpec)

/-- ITS FALSE NEIGHBOUR: 'it returns false'. Refute it at one input. -/
def reformHalfWrong : ChangeSpec := { name := "reformHalf", fn := fun _ => fun
  | [d1, d2, d3] => { results := [.lit (.bool false)], args := [d1, d2, d3] }
  | _ => none }
def ReformHalfWrongFalsely : Prop := reformHalfRow.holds Tryz.pinned (OpenSpec.ofChange reformHalfWrong)

/-- 'escheatlaw18.ReformAgain': WHATEVER THE INPUT: true; the input reads as it did. -/
def reformAgainSpec : ChangeSpec := { name := "reformAgain", fn := fun _ => fun
  | [d1, d2, d3] => { results := [.lit (.bool true)], args := [d1, d2, d3] }
  | _ => none }
def reformAgainRow : OpenClaim := { program := "ytkefpbcifcjibaagreat", sum := "d5bb9987cc9a87adc8726a638bc027e1fdc5c9eddb23b5f325a94984524f66cb", func := "escheat/escheatlaw18.ReformAgain", spec := "reformAgain", unfollowed := true, recurses := true, plainKeys := false, apart := false }
def ReformAgainSaid : Prop := reformAgainRow.holds Tryz.pinned (OpenSpec.ofChange reformAgainSpec)

/-- ITS FALSE NEIGHBOUR: 'it returns false'. Refute it at one input. -/
def reformAgainWrong : ChangeSpec := { name := "reformAgain", fn := fun _ => fun
  | [d1, d2, d3] => { results := [.lit (.bool false)], args := [d1, d2, d3] }
  | _ => none }
def ReformAgainWrongFalsely : Prop := reformAgainRow.holds Tryz.pinned (OpenSpec.ofChange reformAgainWrong)

/-- 'escheatlaw18.ReformNone': WHATEVER THE INPUT: true; the input reads as it did. -/
def reformNoneSpec : ChangeSpec := { name := "reformNone", fn := fun _ => fun
  | [d1, d2] => { results := [.lit (.bool true)], args := [d1, d2] }
  | _ => none }
def reformNoneRow : OpenClaim := { program := "ytkefpbcifcjibaagreat", sum := "d5bb9987cc9a87adc8726a638bc027e1fdc5c9eddb23b5f325a94984524f66cb", func := "escheat/escheatlaw18.ReformNone", spec := "reformNone", unfollowed := true, recurses := true, plainKeys := false, apart := false }
def ReformNoneSaid : Prop := reformNoneRow.holds Tryz.pinned (OpenSpec.ofChange reformNoneSpec)

/-- ITS FALSE NEIGHBOUR: 'it returns false'. Refute it at one input. -/
def reformNoneWrong : ChangeSpec := { name := "reformNone", fn := fun _ => fun
  | [d1, d2] => { results := [.lit (.bool false)], args := [d1, d2] }
  | _ => none }
def ReformNoneWrongFalsely : Prop := reformNoneRow.holds Tryz.pinned (OpenSpec.ofChange reformNoneWrong)

/- THE SECOND FORM. 'bulk': how many values and letters a reading holds, each counted each time it is reached (what is shared counts as often as it is met; a slice's spare places count too). A statement '..UptoSaid' is the law's where the arguments, and the package variables that the reading takes, are together of bulk at most 1048576: NARROWER than '..Said'. Prove '..Said' where nothing that the law and all that it calls make is longer than what came in: it says more and counts as full. Else prove '..UptoSaid'. A law counts once. -/
mutual
def uptoBulk {H : Type} : DataW H → Nat
  | .lit (.string bytes) => bytes.length + 1
  | .lit _ => 1
  | .nil => 1
  | .ptr d => uptoBulk d + 1
  | .slice elems spare => uptoBulkAll elems + uptoBulkAll spare + 1
  | .agg parts => uptoBulkAll parts + 1
  | .iface _ d => uptoBulk d + 1
  | .map entries => uptoBulkEntries entries + 1
  | .held _ => 1
def uptoBulkAll {H : Type} : List (DataW H) → Nat
  | [] => 0
  | d :: r => uptoBulk d + uptoBulkAll r
def uptoBulkEntries {H : Type} : List (Lit × DataW H) → Nat
  | [] => 0
  | x :: r => uptoBulkEntry x + uptoBulkEntries r
def uptoBulkEntry {H : Type} : Lit × DataW H → Nat
  | (.string bytes, d) => bytes.length + uptoBulk d + 1
  | (_, d) => uptoBulk d + 1
 end
def uptoSmall : (H : Type) → List (DataW H) → Bool := fun _ ds => decide (uptoBulkAll ds ≤ 1048576)
def OpenSpec.upto (s : _root_.Go.ChangeSpec) : _root_.Go.OpenSpec := { _root_.Go.OpenSpec.ofChange s with cond := some uptoSmall }

/-- 'escheatlaw18.ReformHears', WHERE WHAT IT READS IS OF BULK AT MOST 1048576: true; the input reads as it did. -/
def reformHearsUptoRow : OpenClaim := { program := "ytkefpbcifcjibaagreat", sum := "d5bb9987cc9a87adc8726a638bc027e1fdc5c9eddb23b5f325a94984524f66cb", func := "escheat/escheatlaw18.ReformHears", spec := "reformHears", unfollowed := true, recurses := true, plainKeys := false, apart := false, narrowed := true }
def ReformHearsUptoSaid : Prop := reformHearsUptoRow.holds Tryz.pinned (OpenSpec.upto reformHearsSpec)

/-- 'escheatlaw18.ReformKeeps', WHERE WHAT IT READS IS OF BULK AT MOST 1048576: true; the input reads as it did. -/
def reformKeepsUptoRow : OpenClaim := { program := "ytkefpbcifcjibaagreat", sum := "d5bb9987cc9a87adc8726a638bc027e1fdc5c9eddb23b5f325a94984524f66cb", func := "escheat/escheatlaw18.ReformKeeps", spec := "reformKeeps", unfollowed := true, recurses := true, plainKeys := false, apart := false, narrowed := true }
def ReformKeepsUptoSaid : Prop := reformKeepsUptoRow.holds Tryz.pinned (OpenSpec.upto reformKeepsSpec)

/-- 'escheatlaw18.ReformHalf', WHERE WHAT IT READS IS OF BULK AT MOST 1048576: true; the input reads as it did. -/
def reformHalfUptoRow : OpenClaim := { program := "ytkefpbcifcjibaagreat", sum := "d5bb9987cc9a87adc8726a638bc027e1fdc5c9eddb23b5f325a94984524f66cb", func := "escheat/escheatlaw18.ReformHalf", spec := "reformHalf", unfollowed := true, recurses := true, plainKeys := false, apart := false, narrowed := true }
def ReformHalfUptoSaid : Prop := reformHalfUptoRow.holds Tryz.pinned (OpenSpec.upto reformHalfSpec)

/-- 'escheatlaw18.ReformAgain', WHERE WHAT IT READS IS OF BULK AT MOST 1048576: true; the input reads as it did. -/
def reformAgainUptoRow : OpenClaim := { program := "ytkefpbcifcjibaagreat", sum := "d5bb9987cc9a87adc8726a638bc027e1fdc5c9eddb23b5f325a94984524f66cb", func := "escheat/escheatlaw18.ReformAgain", spec := "reformAgain", unfollowed := true, recurses := true, plainKeys := false, apart := false, narrowed := true }
def ReformAgainUptoSaid : Prop := reformAgainUptoRow.holds Tryz.pinned (OpenSpec.upto reformAgainSpec)

/-- 'escheatlaw18.ReformNone', WHERE WHAT IT READS IS OF BULK AT MOST 1048576: true; the input reads as it did. -/
def reformNoneUptoRow : OpenClaim := { program := "ytkefpbcifcjibaagreat", sum := "d5bb9987cc9a87adc8726a638bc027e1fdc5c9eddb23b5f325a94984524f66cb", func := "escheat/escheatlaw18.ReformNone", spec := "reformNone", unfollowed := true, recurses := true, plainKeys := false, apart := false, narrowed := true }
def ReformNoneUptoSaid : Prop := reformNoneUptoRow.holds Tryz.pinned (OpenSpec.upto reformNoneSpec)

end Rows
end Go.Proofs.YtkefpbcifcjibaaGreat
