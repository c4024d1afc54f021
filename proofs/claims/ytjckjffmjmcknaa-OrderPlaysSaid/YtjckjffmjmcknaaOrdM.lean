/- Plain facts on the sequencer: what each question makes of it, and is answered. No conditions. -/
import Derived.Test.YtjckjffmjmcknaaAskM
namespace Go.Proofs.Ytjckjffmjmcknaa
set_option linter.unusedVariables false
open Go.RowKit
/-- a sequencer: its epoch, the tail, whether it knows it -/
structure Od where
  epoch : Int
  tail : Int
  knows : Bool
def noT : ByteArray := ⟨#[]⟩
def Od.ans (o : Od) (a : Ak) : An :=
  if a.kind = 8 then (if a.epoch ≤ o.epoch then anP 40 0 noT o.epoch else if a.page < 0 ∨ 16384 < a.page then anP 1 0 noT o.epoch else anP 0 0 noT a.epoch)
  else if a.kind = 6 ∨ a.kind = 7 then (if a.epoch ≠ o.epoch then anP 40 0 noT o.epoch else if o.knows = false then anP 47 0 noT o.epoch else if a.kind = 7 then anP 0 o.tail noT o.epoch else if o.tail = 16384 then anP 44 0 noT o.epoch else anP 0 o.tail noT o.epoch)
  else anP 1 0 noT o.epoch
def Od.done (o : Od) (a : Ak) : Od :=
  if a.kind = 8 ∧ o.epoch < a.epoch ∧ 0 ≤ a.page ∧ a.page ≤ 16384 then ⟨a.epoch, a.page, true⟩
  else if a.kind = 6 ∧ a.epoch = o.epoch ∧ o.knows = true ∧ o.tail ≠ 16384 then ⟨o.epoch, o.tail + 1, o.knows⟩ else o
def newO : Od := ⟨-1, 0, false⟩
/-- a sequencer as the calls make it -/
structure Od.Ok (o : Od) : Prop where
  epoch : i64w o.epoch
  tail : 0 ≤ o.tail ∧ o.tail ≤ 16384
theorem newO_ok : newO.Ok := ⟨WalkArith.wf_i64 (n := -1) (by decide), by decide⟩
theorem Od.Ok.done {o : Od} (h : o.Ok) {a : Ak} (ha : i64w a.epoch) : (o.done a).Ok := by
  unfold Od.done
  split
  · next hc => exact ⟨ha, hc.2.2⟩
  split
  · next hc => exact ⟨h.epoch, by have := h.tail; have := hc.2.2.2; show 0 ≤ o.tail + 1 ∧ o.tail + 1 ≤ 16384; omega⟩
  · exact h
theorem Od.Ok.turn {o : Od} (h : o.Ok) (d : Bool) : (⟨o.epoch, o.tail, d⟩ : Od).Ok := ⟨h.epoch, h.tail⟩
/-- an answer that tells no projection, as a value -/
def anW (c n : Int) (s : ByteArray) (e : Int) : Value := .agg #[.int .i64 c, .int .i64 n, .string s, .int .i64 0, .slice none 0 0, .int .i64 0, .int .i64 0, .int .i64 e]
theorem ansV_O (o : Od) (a : Ak) : ansV (o.ans a) none 0 = anW (o.ans a).code (o.ans a).n (o.ans a).data (o.ans a).epoch := by
  unfold Od.ans
  repeat' split
  all_goals rfl
end Go.Proofs.Ytjckjffmjmcknaa
