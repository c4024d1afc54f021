/-
  No cell of these rows narrows 'for every input' (looked for: loops, veiled, ifaces, maps, wideKeys, modest, calm, conditions, laid).
  DERIVED. THE GIVEN ROWS OF THIS SEAT. 5 by the template 'for every input the law returns true; each argument reads behind the call as it read before'; 0 by the template 'total and deterministic' (their statements: YtbiihcoobknmjaaTotals.lean).
  GIVEN WITH THE SEED: the statements are not yours to turn. If you find one false, say at which input.
  Laid BY PROGRAM, IN A SANDBOX (cutbox-rows.mjs): the forced cells as the released guide's own fill.sh prints them over the translation 6a93139a4212da6c… (all of the seat's roots in one cut). By AI agents, Wed Nov 11 2026. No macro, syntax, notation, axiom, sorry.
-/
import Derived.Test.YtbiihcoobknmjaaChecked
import GoSem.Claim
import GoSem.ClaimJoined
import GoSem.ClaimMapViews
import Derived.JoinedTies
import Derived.KernelRfl
namespace Go.Proofs.Ytbiihcoobknmjaa
/- THE CELL 'sum', in the pinned program and in every row, IS THE sha256 OF THE DUMP (.gsa) THAT YtbiihcoobknmjaaProg.lean LOADS. Nothing in Lean hashes anything: it is a label: what it is worth is what the hold of that sum in a sandbox is worth. -/
noncomputable def Try.pinned : Pinned := { name := "ytbiihcoobknmjaa", sum := "6a93139a4212da6c50beee320c7345985b2c9eefa986c498d449e3c5abf35dd2", checked := Try.checked }
namespace Rows
def none {H : Type} : Left H := { results := [], args := [] }

/-- 'escheatlaw07.ProjTells': WHATEVER THE INPUT: true; the input reads as it did. -/
def projTellsSpec : ChangeSpec := { name := "projTells", fn := fun _ => fun
  | [d] => { results := [.lit (.bool true)], args := [d] }
  | _ => none }
def projTellsRow : OpenClaim := { program := "ytbiihcoobknmjaa", sum := "6a93139a4212da6c50beee320c7345985b2c9eefa986c498d449e3c5abf35dd2", func := "escheat/escheatlaw07.ProjTells", spec := "projTells", unfollowed := true, recurses := true, plainKeys := false, apart := false }
def ProjTellsSaid : Prop := projTellsRow.holds Try.pinned (OpenSpec.ofChange projTellsSpec)

/-- ITS FALSE NEIGHBOUR: 'it returns false'. Refute it at one input. -/
def projTellsWrong : ChangeSpec := { name := "projTells", fn := fun _ => fun
  | [d] => { results := [.lit (.bool false)], args := [d] }
  | _ => none }
def ProjTellsWrongFalsely : Prop := projTellsRow.holds Try.pinned (OpenSpec.ofChange projTellsWrong)

/-- 'escheatlaw07.ProjNexts': WHATEVER THE INPUT: true; the input reads as it did. -/
def projNextsSpec : ChangeSpec := { name := "projNexts", fn := fun _ => fun
  | [d1, d2] => { results := [.lit (.bool true)], args := [d1, d2] }
  | _ => none }
def projNextsRow : OpenClaim := { program := "ytbiihcoobknmjaa", sum := "6a93139a4212da6c50beee320c7345985b2c9eefa986c498d449e3c5abf35dd2", func := "escheat/escheatlaw07.ProjNexts", spec := "projNexts", unfollowed := true, recurses := true, plainKeys := false, apart := false }
def ProjNextsSaid : Prop := projNextsRow.holds Try.pinned (OpenSpec.ofChange projNextsSpec)

/-- ITS FALSE NEIGHBOUR: 'it returns false'. Refute it at one input. -/
def projNextsWrong : ChangeSpec := { name := "projNexts", fn := fun _ => fun
  | [d1, d2] => { results := [.lit (.bool false)], args := [d1, d2] }
  | _ => none }
def ProjNextsWrongFalsely : Prop := projNextsRow.holds Try.pinned (OpenSpec.ofChange projNextsWrong)

/-- 'escheatlaw07.ProjCodes': WHATEVER THE INPUT: true; the input reads as it did. -/
def projCodesSpec : ChangeSpec := { name := "projCodes", fn := fun _ => fun
  | [d1, d2] => { results := [.lit (.bool true)], args := [d1, d2] }
  | _ => none }
def projCodesRow : OpenClaim := { program := "ytbiihcoobknmjaa", sum := "6a93139a4212da6c50beee320c7345985b2c9eefa986c498d449e3c5abf35dd2", func := "escheat/escheatlaw07.ProjCodes", spec := "projCodes", unfollowed := true, recurses := true, plainKeys := false, apart := false }
def ProjCodesSaid : Prop := projCodesRow.holds Try.pinned (OpenSpec.ofChange projCodesSpec)

/-- ITS FALSE NEIGHBOUR: 'it returns false'. Refute it at one input. -/
def projCodesWrong : ChangeSpec := { name := "projCodes", fn := fun _ => fun
  | [d1, d2] => { results := [.lit (.bool false)], args := [d1, d2] }
  | _ => none }
def ProjCodesWrongFalsely : Prop := projCodesRow.holds Try.pinned (OpenSpec.ofChange projCodesWrong)

/-- 'escheatlaw07.ProjBack': WHATEVER THE INPUT: true; the input reads as it did. -/
def projBackSpec : ChangeSpec := { name := "projBack", fn := fun _ => fun
  | [d1, d2] => { results := [.lit (.bool true)], args := [d1, d2] }
  | _ => none }
def projBackRow : OpenClaim := { program := "ytbiihcoobknmjaa", sum := "6a93139a4212da6c50beee320c7345985b2c9eefa986c498d449e3c5abf35dd2", func := "escheat/escheatlaw07.ProjBack", spec := "projBack", unfollowed := true, recurses := true, plainKeys := false, apart := false }
def ProjBackSaid : Prop := projBackRow.holds Try.pinned (OpenSpec.ofChange projBackSpec)

/-- ITS FALSE NEIGHBOUR: 'it returns false'. Refute it at one input. -/
def projBackWrong : ChangeSpec := { name := "projBack", fn := fun _ => fun
  | [d1, d2] => { results := [.lit (.bool false)], args := [d1, d2] }
  | _ => none }
def ProjBackWrongFalsely : Prop := projBackRow.holds Try.pinned (OpenSpec.ofChange projBackWrong)

/-- 'escheatlaw07.ProjHeads': WHATEVER THE INPUT: true; the input reads as it did. -/
def projHeadsSpec : ChangeSpec := { name := "projHeads", fn := fun _ => fun
  | [d1, d2] => { results := [.lit (.bool true)], args := [d1, d2] }
  | _ => none }
def projHeadsRow : OpenClaim := { program := "ytbiihcoobknmjaa", sum := "6a93139a4212da6c50beee320c7345985b2c9eefa986c498d449e3c5abf35dd2", func := "escheat/escheatlaw07.ProjHeads", spec := "projHeads", unfollowed := true, recurses := true, plainKeys := false, apart := false }
def ProjHeadsSaid : Prop := projHeadsRow.holds Try.pinned (OpenSpec.ofChange projHeadsSpec)

/-- ITS FALSE NEIGHBOUR: 'it returns false'. Refute it at one input. -/
def projHeadsWrong : ChangeSpec := { name := "projHeads", fn := fun _ => fun
  | [d1, d2] => { results := [.lit (.bool false)], args := [d1, d2] }
  | _ => none }
def ProjHeadsWrongFalsely : Prop := projHeadsRow.holds Try.pinned (OpenSpec.ofChange projHeadsWrong)

/- THE SECOND FORM. 'bulk': how many values and letters a reading holds, each counted each time it is reached (what is shared counts as often as it is met; a slice's spare places count too). A statement '..UptoSaid' is the law's where the arguments, and the package variables that the reading takes, are together of bulk at most 1048576: NARROWER than '..Said'. Prove '..Said' where nothing that the law and all that it calls make is longer than what came in: it says more and counts as full. Else prove '..UptoSaid'. A law counts once. -/
mutual
def uptoBulk {H : Type} : DataW H → Nat
  | .lit (.string bytes) => bytes.length + 1
  | .lit _ => 1
  | .nil => 1
  | .ptr d => uptoBulk d + 1
  | .slice elems spare => uptoBulkAll elems + uptoBulkAll spare + 1
  | .agg parts => uptoBulkAll parts + 1
  | .iface _ d => uptoBulk d + 1
  | .map entries => uptoBulkEntries entries + 1
  | .held _ => 1
def uptoBulkAll {H : Type} : List (DataW H) → Nat
  | [] => 0
  | d :: r => uptoBulk d + uptoBulkAll r
def uptoBulkEntries {H : Type} : List (Lit × DataW H) → Nat
  | [] => 0
  | x :: r => uptoBulkEntry x + uptoBulkEntries r
def uptoBulkEntry {H : Type} : Lit × DataW H → Nat
  | (.string bytes, d) => bytes.length + uptoBulk d + 1
  | (_, d) => uptoBulk d + 1
 end
def uptoSmall : (H : Type) → List (DataW H) → Bool := fun _ ds => decide (uptoBulkAll ds ≤ 1048576)
def OpenSpec.upto (s : _root_.Go.ChangeSpec) : _root_.Go.OpenSpec := { _root_.Go.OpenSpec.ofChange s with cond := some uptoSmall }

/-- 'escheatlaw07.ProjTells', WHERE WHAT IT READS IS OF BULK AT MOST 1048576: true; the input reads as it did. -/
def projTellsUptoRow : OpenClaim := { program := "ytbiihcoobknmjaa", sum := "6a93139a4212da6c50beee320c7345985b2c9eefa986c498d449e3c5abf35dd2", func := "escheat/escheatlaw07.ProjTells", spec := "projTells", unfollowed := true, recurses := true, plainKeys := false, apart := false, narrowed := true }
def ProjTellsUptoSaid : Prop := projTellsUptoRow.holds Try.pinned (OpenSpec.upto projTellsSpec)

/-- 'escheatlaw07.ProjNexts', WHERE WHAT IT READS IS OF BULK AT MOST 1048576: true; the input reads as it did. -/
def projNextsUptoRow : OpenClaim := { program := "ytbiihcoobknmjaa", sum := "6a93139a4212da6c50beee320c7345985b2c9eefa986c498d449e3c5abf35dd2", func := "escheat/escheatlaw07.ProjNexts", spec := "projNexts", unfollowed := true, recurses := true, plainKeys := false, apart := false, narrowed := true }
def ProjNextsUptoSaid : Prop := projNextsUptoRow.holds Try.pinned (OpenSpec.upto projNextsSpec)

/-- 'escheatlaw07.ProjCodes', WHERE WHAT IT READS IS OF BULK AT MOST 1048576: true; the input reads as it did. -/
def projCodesUptoRow : OpenClaim := { program := "ytbiihcoobknmjaa", sum := "6a93139a4212da6c50beee320c7345985b2c9eefa986c498d449e3c5abf35dd2", func := "escheat/escheatlaw07.ProjCodes", spec := "projCodes", unfollowed := true, recurses := true, plainKeys := false, apart := false, narrowed := true }
def ProjCodesUptoSaid : Prop := projCodesUptoRow.holds Try.pinned (OpenSpec.upto projCodesSpec)

/-- 'escheatlaw07.ProjBack', WHERE WHAT IT READS IS OF BULK AT MOST 1048576: true; the input reads as it did. -/
def projBackUptoRow : OpenClaim := { program := "ytbiihcoobknmjaa", sum := "6a93139a4212da6c50beee320c7345985b2c9eefa986c498d449e3c5abf35dd2", func := "escheat/escheatlaw07.ProjBack", spec := "projBack", unfollowed := true, recurses := true, plainKeys := false, apart := false, narrowed := true }
def ProjBackUptoSaid : Prop := projBackUptoRow.holds Try.pinned (OpenSpec.upto projBackSpec)

/-- 'escheatlaw07.ProjHeads', WHERE WHAT IT READS IS OF BULK AT MOST 1048576: true; the input reads as it did. -/
def projHeadsUptoRow : OpenClaim := { program := "ytbiihcoobknmjaa", sum := "6a93139a4212da6c50beee320c7345985b2c9eefa986c498d449e3c5abf35dd2", func := "escheat/escheatlaw07.ProjHeads", spec := "projHeads", unfollowed := true, recurses := true, plainKeys := false, apart := false, narrowed := true }
def ProjHeadsUptoSaid : Prop := projHeadsUptoRow.holds Try.pinned (OpenSpec.upto projHeadsSpec)

end Rows
end Go.Proofs.Ytbiihcoobknmjaa
