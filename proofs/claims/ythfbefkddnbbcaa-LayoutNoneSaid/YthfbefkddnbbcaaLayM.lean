/- Plain facts on the layout: what each question makes of it, and is answered. No conditions. -/
import Derived.Test.YthfbefkddnbbcaaAskM
import Derived.Test.YthfbefkddnbbcaaPrjM
namespace Go.Proofs.Ythfbefkddnbbcaa
set_option linter.unusedVariables false
open Go.RowKit
/-- a layout: the projection that counts, the units that were used, the image that counts -/
structure Ly where
  ep : Int
  L : List (List Int)
  used : List Int
  mark : Int
  size : Int
  n : Int
def noL : ByteArray := ⟨#[]⟩
/-- may a projection come next? -/
def Ly.may (y : Ly) (e : Int) (Q : List (List Int)) : Bool := nextB y.ep y.L e Q && (unitsR Q).all (fun u => decide (u ∈ unitsR y.L) || !decide (u ∈ y.used))
/-- is a mark out of bounds? -/
def badM (a : Ak) : Prop := a.page < 0 ∨ 16384 ≤ a.page ∨ a.size < 1 ∨ 65536 < a.size ∨ a.n < 0 ∨ 16384 < a.n
instance (a : Ak) : Decidable (badM a) := by unfold badM; infer_instance
def anL (c : Int) (e : Int) (L : List (List Int)) : An := ⟨c, 0, noL, e, L, 0, 0, 0⟩
def anM (n mark size : Int) : An := ⟨0, n, noL, 0, [], mark, size, 0⟩
def Ly.ans (y : Ly) (a : Ak) : An :=
  if a.kind = 9 then ⟨0, y.n, noL, y.ep, y.L, y.mark, y.size, 0⟩
  else if a.kind = 10 then (if y.may a.pe a.L = true then anL 0 a.pe a.L else anL 48 y.ep y.L)
  else if a.kind = 11 then (if badM a then anP 1 0 noL 0 else if y.n < a.n then anM a.n a.page a.size else anM y.n y.mark y.size)
  else anP 1 0 noL 0
def Ly.done (y : Ly) (a : Ak) : Ly :=
  if a.kind = 10 then (if y.may a.pe a.L = true then ⟨a.pe, a.L, y.used ++ unitsR a.L, y.mark, y.size, y.n⟩ else y)
  else if a.kind = 11 ∧ ¬ badM a ∧ y.n < a.n then ⟨y.ep, y.L, y.used, a.page, a.size, a.n⟩ else y
def newL (ep : Int) (L : List (List Int)) : Ly := ⟨ep, L, unitsR L, -1, 0, -1⟩
/-- a layout as the calls make it; k: how many units were noted at most -/
structure Ly.Ok (y : Ly) (k : Nat) : Prop where
  good : goodB y.ep y.L = true
  few : y.used.length ≤ k
  n : -1 ≤ y.n ∧ y.n ≤ 16384
  mark : -1 ≤ y.mark ∧ y.mark ≤ 16384
  size : 0 ≤ y.size ∧ y.size ≤ 65536
end Go.Proofs.Ythfbefkddnbbcaa
