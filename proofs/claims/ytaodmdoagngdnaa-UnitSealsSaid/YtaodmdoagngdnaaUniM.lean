/- Plain facts on a storage unit: what each question makes of it, and is answered. No conditions. -/
import Derived.Test.YtaodmdoagngdnaaPagM
import Derived.Test.YtaodmdoagngdnaaAskM
namespace Go.Proofs.Ytaodmdoagngdnaa
set_option linter.unusedVariables false
open Go.RowKit
/-- a unit: its pages, its epoch, whether it is down -/
structure Us where
  p : Ps
  epoch : Int
  down : Bool
def noS : ByteArray := ⟨#[]⟩
/-- of which kind a question to pages is, its error; its data -/
def Us.pageE (u : Us) (a : Ak) : Int := if a.kind = 1 then u.p.writeE a.page a.data else if a.kind = 2 then u.p.fillE a.page else if a.kind = 3 then u.p.readE a.page else Ps.trimE a.page
def Us.pageP (u : Us) (a : Ak) : Ps := if a.kind = 1 then u.p.write a.page a.data else if a.kind = 2 then u.p.fill a.page else if a.kind = 3 then u.p else u.p.trim a.page
/-- what a question is answered -/
def Us.ans (u : Us) (a : Ak) : An :=
  if u.down = true then anP 45 0 noS 0 else if a.kind < 1 ∨ 5 < a.kind then anP 1 0 noS u.epoch else if a.epoch < u.epoch then anP 40 0 noS u.epoch
  else if a.kind = 5 then anP 0 u.p.tail noS a.epoch else anP (u.pageE a) 0 (if a.kind = 3 then u.p.readS a.page else noS) u.epoch
/-- what it makes of the unit -/
def Us.done (u : Us) (a : Ak) : Us :=
  if u.down = true ∨ (a.kind < 1 ∨ 5 < a.kind) ∨ a.epoch < u.epoch then u
  else if a.kind = 5 then ⟨u.p, a.epoch, u.down⟩ else ⟨u.pageP a, u.epoch, u.down⟩
def newU (room : Int) : Us := ⟨newP room, 0, false⟩
theorem Us.ok {u : Us} (h : u.p.Ok) (a : Ak) : (u.done a).p.Ok := by
  unfold Us.done
  split
  · exact h
  split
  · exact h
  · show (u.pageP a).Ok
    unfold Us.pageP
    split
    · exact h.write _ _
    split
    · exact h.fill _
    split
    · exact h
    · exact h.trim _
theorem Us.wide {u : Us} (h : i64w u.epoch) {a : Ak} (ha : i64w a.epoch) : i64w (u.done a).epoch := by
  unfold Us.done
  split
  · exact h
  split
  · exact ha
  · exact h
theorem Us.down_same (u : Us) (a : Ak) : (u.done a).down = u.down := by
  unfold Us.done
  split
  · rfl
  split <;> rfl
theorem ans_L (u : Us) (a : Ak) : (u.ans a).L = [] := by
  unfold Us.ans
  repeat' split
  all_goals rfl
end Go.Proofs.Ytaodmdoagngdnaa
