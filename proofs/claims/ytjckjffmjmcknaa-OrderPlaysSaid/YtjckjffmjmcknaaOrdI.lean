/- What the document's own sequencer answers any question, and is behind it; the program's and it side by side. Conditions: the program's functions return what OrderSays says. -/
import Derived.Test.YtjckjffmjmcknaaOrdB
import Derived.Test.YtjckjffmjmcknaaOrdC
import Derived.Test.YtjckjffmjmcknaaOrdD
import Derived.Test.YtjckjffmjmcknaaOrdE
import Derived.Test.YtjckjffmjmcknaaOrdS
namespace Go.Proofs.Ytjckjffmjmcknaa
set_option linter.unusedVariables false
open Go.RowKit
set_option maxRecDepth 20000
theorem odo_any (r : Nat) (G : Nat → Prop) (w : World) (o : Od) (a : Ak) (h : RO r G w o) (hw : i64w a.epoch) :
    Calls Try.prog 13 #[ptrO r, askV a] w fun e w' => e = .returned (ansV (o.ans a) none 0) ∧ Leaves (RO r) G w w' (o.done a) := by
  by_cases h8 : a.kind = 8
  · by_cases he : a.epoch ≤ o.epoch
    · exact odo_old r G w o a h h8 he
    by_cases h1 : a.page < 0
    · exact odo_low r G w o a h h8 (by omega) h1
    by_cases h2 : 16384 < a.page
    · exact odo_high r G w o a h h8 (by omega) h2
    · exact odo_start r G w o a h h8 (by omega) ⟨by omega, by omega⟩ hw
  by_cases h6 : a.kind = 6
  · by_cases he : a.epoch = o.epoch
    · cases hn : o.knows
      · exact odo_next_dumb r G w o a h h6 he hn
      · by_cases ht : o.tail = 16384
        · exact odo_full r G w o a h h6 he hn ht
        · exact odo_next r G w o a h h6 he hn ht
    · exact odo_next_other r G w o a h h6 he
  by_cases h7 : a.kind = 7
  · by_cases he : a.epoch = o.epoch
    · cases hn : o.knows
      · exact odo_tail_dumb r G w o a h h7 he hn
      · exact odo_tail r G w o a h h7 he hn
    · exact odo_tail_other r G w o a h h7 he
  · exact odo_other r G w o a h ⟨h8, h6, h7⟩
section
variable {OG : Nat → (Nat → Prop) → World → Od → Prop} {X : Nat → Prop} {w : World} {b r : Nat} {o v : Od}
theorem so_ask (HS : OrderSays OG) (h : Side (OG b) (RO r) X w o v) {a : Ak} (ha : AkIn w a) : Calls Try.prog 12 #[ptrO b, askV a] w fun e w' => e = .returned (anW (o.ans a).code (o.ans a).n (o.ans a).data (o.ans a).epoch) ∧ Side (OG b) (RO r) X w' (o.done a) v ∧ Kept X w w' :=
  side_left (R := fun e => e = .returned (anW (o.ans a).code (o.ans a).n (o.ans a).data (o.ans a).epoch)) (HS.thing b) (ro_thing r) h (fun F hF => HS.ask b F w o a hF ha)
theorem so_rask (HS : OrderSays OG) (h : Side (OG b) (RO r) X w o v) {a : Ak} (hw : i64w a.epoch) : Calls Try.prog 13 #[ptrO r, askV a] w fun e w' => e = .returned (anW (v.ans a).code (v.ans a).n (v.ans a).data (v.ans a).epoch) ∧ Side (OG b) (RO r) X w' o (v.done a) ∧ Kept X w w' :=
  side_right (R := fun e => e = .returned (anW (v.ans a).code (v.ans a).n (v.ans a).data (v.ans a).epoch)) (HS.thing b) (ro_thing r) h (fun F hF => by rw [← ansV_O]; exact odo_any r F w v a hF hw)
theorem so_crash (HS : OrderSays OG) (h : Side (OG b) (RO r) X w o v) : Calls Try.prog 10 #[ptrO b] w fun e w' => e = .returned (.tuple #[]) ∧ Side (OG b) (RO r) X w' ⟨o.epoch, o.tail, false⟩ v ∧ Kept X w w' :=
  side_left (R := fun e => e = .returned (.tuple #[])) (HS.thing b) (ro_thing r) h (fun F hF => HS.crash b F w o hF)
theorem so_look {z : Value} {fn : FuncId} {args : Array Value} (HS : OrderSays OG) (h : Side (OG b) (RO r) X w o v) (hc : ∀ G : Nat → Prop, OG b G w o → Calls Try.prog fn args w fun e w' => e = .returned z ∧ Below w.heap.size w w') : Calls Try.prog fn args w fun e w' => e = .returned z ∧ Below w.heap.size w w' := by
  obtain ⟨_, F, G, h2, _⟩ := h
  exact hc F h2
/-- the document's sequencer's own three cells -/
theorem so_cells (h : Side (OG b) (RO r) X w o v) : w.cell? ⟨r, 0, none⟩ = some (.int .i64 v.epoch) ∧ w.cell? ⟨r, 1, none⟩ = some (.int .i64 v.tail) ∧ w.cell? ⟨r, 2, none⟩ = some (.bool v.knows) ∧ w.frozen? ⟨r, 2, none⟩ = false := by
  obtain ⟨_, F, G, _, ⟨_, h3, _⟩, _⟩ := h
  obtain ⟨c0, c1, c2, _, _, f2⟩ := three_cells h3
  exact ⟨c0, c1, c2, f2⟩
/-- the law itself lets the document's sequencer forget -/
theorem so_set (HS : OrderSays OG) (h : Side (OG b) (RO r) X w o v) (d : Bool) : Side (OG b) (RO r) X (w.setCell ⟨r, 2, none⟩ (.bool d)) o ⟨v.epoch, v.tail, d⟩ ∧ Kept X w (w.setCell ⟨r, 2, none⟩ (.bool d)) := by
  refine h.right_step (HS.thing b) (ro_thing r) (fun G hG => ?_)
  obtain ⟨k1, k3, k4⟩ := hG
  exact ⟨G, ⟨k1.turn d, three_set2 k3 _, k4⟩, (Kept.refl _ w).setCell (p := ⟨r, 2, none⟩) (fun hn => hn ((k4 r).2 rfl)) _, fun k hk => .inl hk⟩
end
end Go.Proofs.Ytjckjffmjmcknaa
