/-
  No cell of these rows narrows 'for every input' (looked for: loops, veiled, ifaces, maps, wideKeys, modest, calm, conditions, laid).
  DERIVED. THE GIVEN ROWS OF THIS SEAT. 4 by the template 'for every input the law returns true; each argument reads behind the call as it read before'; 0 by the template 'total and deterministic' (their statements: YthffjanidjjkdaaGreatTotals.lean).
  GIVEN WITH THE SEED: the statements are not yours to turn. If you find one false, say at which input.
  Laid BY PROGRAM, IN A SANDBOX (cutbox-rows.mjs): the forced cells as the released guide's own fill.sh prints them over the translation a199fbc2731968a7… (all of the seat's roots in one cut). By AI agents, Wed Nov 11 2026. No macro, syntax, notation, axiom, sorry.
-/
import Derived.Test.YthffjanidjjkdaaGreatChecked
import GoSem.Claim
import GoSem.ClaimJoined
import GoSem.ClaimMapViews
import Derived.JoinedTies
import Derived.KernelRfl
namespace Go.Proofs.YthffjanidjjkdaaGreat
/- THE CELL 'sum', in the pinned program and in every row, IS THE sha256 OF THE DUMP (.gsa) THAT YthffjanidjjkdaaGreatProg.lean LOADS. Nothing in Lean hashes anything: it is a label: what it is worth is what the hold of that sum in a sandbox is worth. -/
noncomputable def Tryz.pinned : Pinned := { name := "ythffjanidjjkdaagreat", sum := "a199fbc2731968a786680feaad008b5b8362de09a8c0487db36f16cee88979d3", checked := Tryz.checked }
namespace Rows
def none {H : Type} : Left H := { results := [], args := [] }

/-- 'escheatlaw16.FetchMends': WHATEVER THE INPUT: true; the input reads as it did. -/
def fetchMendsSpec : ChangeSpec := { name := "fetchMends", fn := fun _ => fun
  | [d1, d2, d3] => { results := [.lit (.bool true)], args := [d1, d2, d3] }
  | _ => none }
def fetchMendsRow : OpenClaim := { program := "ythffjanidjjkdaagreat", sum := "a199fbc2731968a786680feaad008b5b8362de09a8c0487db36f16cee88979d3", func := "escheat/escheatlaw16.FetchMends", spec := "fetchMends", unfollowed := true, recurses := true, plainKeys := false, apart := false }
def FetchMendsSaid : Prop := fetchMendsRow.holds Tryz.pinned (OpenSpec.ofChange fetchMendsSpec)

/-- ITS FALSE NEIGHBOUR: 'it returns false'. Refute it at one input. -/
def fetchMendsWrong : ChangeSpec := { name := "fetchMends", fn := fun _ => fun
  | [d1, d2, d3] => { results := [.lit (.bool false)], args := [d1, d2, d3] }
  | _ => none }
def FetchMendsWrongFalsely : Prop := fetchMendsRow.holds Tryz.pinned (OpenSpec.ofChange fetchMendsWrong)

/-- 'escheatlaw16.FetchAgrees': WHATEVER THE INPUT: true; the input reads as it did. -/
def fetchAgreesSpec : ChangeSpec := { name := "fetchAgrees", fn := fun _ => fun
  | [d1, d2, d3] => { results := [.lit (.bool true)], args := [d1, d2, d3] }
  | _ => none }
def fetchAgreesRow : OpenClaim := { program := "ythffjanidjjkdaagreat", sum := "a199fbc2731968a786680feaad008b5b8362de09a8c0487db36f16cee88979d3", func := "escheat/escheatlaw16.FetchAgrees", spec := "fetchAgrees", unfollowed := true, recurses := true, plainKeys := false, apart := false }
def FetchAgreesSaid : Prop := fetchAgreesRow.holds Tryz.pinned (OpenSpec.ofChange fetchAgreesSpec)

/-- ITS FALSE NEIGHBOUR: 'it returns false'. Refute it at one input. -/
def fetchAgreesWrong : ChangeSpec := { name := "fetchAgrees", fn := fun _ => fun
  | [d1, d2, d3] => { results := [.lit (.bool false)], args := [d1, d2, d3] }
  | _ => none }
def FetchAgreesWrongFalsely : Prop := fetchAgreesRow.holds Tryz.pinned (OpenSpec.ofChange fetchAgreesWrong)

/-- 'escheatlaw16.FetchTrims': WHATEVER THE INPUT: true; the input reads as it did. -/
def fetchTrimsSpec : ChangeSpec := { name := "fetchTrims", fn := fun _ => fun
  | [d1, d2, d3] => { results := [.lit (.bool true)], args := [d1, d2, d3] }
  | _ => none }
def fetchTrimsRow : OpenClaim := { program := "ythffjanidjjkdaagreat", sum := "a199fbc2731968a786680feaad008b5b8362de09a8c0487db36f16cee88979d3", func := "escheat/escheatlaw16.FetchTrims", spec := "fetchTrims", unfollowed := true, recurses := true, plainKeys := false, apart := false }
def FetchTrimsSaid : Prop := fetchTrimsRow.holds Tryz.pinned (OpenSpec.ofChange fetchTrimsSpec)

/-- ITS FALSE NEIGHBOUR: 'it returns false'. Refute it at one input. -/
def fetchTrimsWrong : ChangeSpec := { name := "fetchTrims", fn := fun _ => fun
  | [d1, d2, d3] => { results := [.lit (.bool false)], args := [d1, d2, d3] }
  | _ => none }
def FetchTrimsWrongFalsely : Prop := fetchTrimsRow.holds Tryz.pinned (OpenSpec.ofChange fetchTrimsWrong)

/-- 'escheatlaw16.FetchNone': WHATEVER THE INPUT: true; the input reads as it did. -/
def fetchNoneSpec : ChangeSpec := { name := "fetchNone", fn := fun _ => fun
  | [d1, d2, d3] => { results := [.lit (.bool true)], args := [d1, d2, d3] }
  | _ => none }
def fetchNoneRow : OpenClaim := { program := "ythffjanidjjkdaagreat", sum := "a199fbc2731968a786680feaad008b5b8362de09a8c0487db36f16cee88979d3", func := "escheat/escheatlaw16.FetchNone", spec := "fetchNone", unfollowed := true, recurses := true, plainKeys := false, apart := false }
def FetchNoneSaid : Prop := fetchNoneRow.holds Tryz.pinned (OpenSpec.ofChange fetchNoneSpec)

/-- ITS FALSE NEIGHBOUR: 'it returns false'. Refute it at one input. -/
def fetchNoneWrong : ChangeSpec := { name := "fetchNone", fn := fun _ => fun
  | [d1, d2, d3] => { results := [.lit (.bool false)], args := [d1, d2, d3] }
  | _ => none }
def FetchNoneWrongFalsely : Prop := fetchNoneRow.holds Tryz.pinned (OpenSpec.ofChange fetchNoneWrong)

/- THE SECOND FORM. 'bulk': how many values and letters a reading holds, each counted each time it is reached (what is shared counts as often as it is met; a slice's spare places count too). A statement '..UptoSaid' is the law's where the arguments, and the package variables that the reading takes, are together of bulk at most 1048576: NARROWER than '..Said'. Prove '..Said' where nothing that the law and all that it calls make is longer than what came in: it says more and counts as full. Else prove '..UptoSaid'. A law counts once. -/
mutual
def uptoBulk {H : Type} : DataW H → Nat
  | .lit (.string bytes) => bytes.length + 1
  | .lit _ => 1
  | .nil => 1
  | .ptr d => uptoBulk d + 1
  | .slice elems spare => uptoBulkAll elems + uptoBulkAll spare + 1
  | .agg parts => uptoBulkAll parts + 1
  | .iface _ d => uptoBulk d + 1
  | .map entries => uptoBulkEntries entries + 1
  | .held _ => 1
def uptoBulkAll {H : Type} : List (DataW H) → Nat
  | [] => 0
  | d :: r => uptoBulk d + uptoBulkAll r
def uptoBulkEntries {H : Type} : List (Lit × DataW H) → Nat
  | [] => 0
  | x :: r => uptoBulkEntry x + uptoBulkEntries r
def uptoBulkEntry {H : Type} : Lit × DataW H → Nat
  | (.string bytes, d) => bytes.length + uptoBulk d + 1
  | (_, d) => uptoBulk d + 1
 end
def uptoSmall : (H : Type) → List (DataW H) → Bool := fun _ ds => decide (uptoBulkAll ds ≤ 1048576)
def OpenSpec.upto (s : _root_.Go.ChangeSpec) : _root_.Go.OpenSpec := { _root_.Go.OpenSpec.ofChange s with cond := some uptoSmall }

/-- 'escheatlaw16.FetchMends', WHERE WHAT IT READS IS OF BULK AT MOST 1048576: true; the input reads as it did. -/
def fetchMendsUptoRow : OpenClaim := { program := "ythffjanidjjkdaagreat", sum := "a199fbc2731968a786680feaad008b5b8362de09a8c0487db36f16cee88979d3", func := "escheat/escheatlaw16.FetchMends", spec := "fetchMends", unfollowed := true, recurses := true, plainKeys := false, apart := false, narrowed := true }
def FetchMendsUptoSaid : Prop := fetchMendsUptoRow.holds Tryz.pinned (OpenSpec.upto fetchMendsSpec)

/-- 'escheatlaw16.FetchAgrees', WHERE WHAT IT READS IS OF BULK AT MOST 1048576: true; the input reads as it did. -/
def fetchAgreesUptoRow : OpenClaim := { program := "ythffjanidjjkdaagreat", sum := "a199fbc2731968a786680feaad008b5b8362de09a8c0487db36f16cee88979d3", func := "escheat/escheatlaw16.FetchAgrees", spec := "fetchAgrees", unfollowed := true, recurses := true, plainKeys := false, apart := false, narrowed := true }
def FetchAgreesUptoSaid : Prop := fetchAgreesUptoRow.holds Tryz.pinned (OpenSpec.upto fetchAgreesSpec)

/-- 'escheatlaw16.FetchTrims', WHERE WHAT IT READS IS OF BULK AT MOST 1048576: true; the input reads as it did. -/
def fetchTrimsUptoRow : OpenClaim := { program := "ythffjanidjjkdaagreat", sum := "a199fbc2731968a786680feaad008b5b8362de09a8c0487db36f16cee88979d3", func := "escheat/escheatlaw16.FetchTrims", spec := "fetchTrims", unfollowed := true, recurses := true, plainKeys := false, apart := false, narrowed := true }
def FetchTrimsUptoSaid : Prop := fetchTrimsUptoRow.holds Tryz.pinned (OpenSpec.upto fetchTrimsSpec)

/-- 'escheatlaw16.FetchNone', WHERE WHAT IT READS IS OF BULK AT MOST 1048576: true; the input reads as it did. -/
def fetchNoneUptoRow : OpenClaim := { program := "ythffjanidjjkdaagreat", sum := "a199fbc2731968a786680feaad008b5b8362de09a8c0487db36f16cee88979d3", func := "escheat/escheatlaw16.FetchNone", spec := "fetchNone", unfollowed := true, recurses := true, plainKeys := false, apart := false, narrowed := true }
def FetchNoneUptoSaid : Prop := fetchNoneUptoRow.holds Tryz.pinned (OpenSpec.upto fetchNoneSpec)

end Rows
end Go.Proofs.YthffjanidjjkdaaGreat
