/- What the document's own unit answers any question, and is behind it; the program's unit and it side by side. Conditions: the program's functions return what UnitSays says. -/
import Derived.Test.YtaodmdoagngdnaaUniC
import Derived.Test.YtaodmdoagngdnaaUniD
import Derived.Test.YtaodmdoagngdnaaUniE
import Derived.Test.YtaodmdoagngdnaaUniF
import Derived.Test.YtaodmdoagngdnaaUniG
import Derived.Test.YtaodmdoagngdnaaUniH
import Derived.Test.YtaodmdoagngdnaaUniV
namespace Go.Proofs.Ytaodmdoagngdnaa
set_option linter.unusedVariables false
open Go.RowKit
set_option maxRecDepth 20000
theorem rdo_any (r q : Nat) (G : Nat → Prop) (w : World) (u : Us) (a : Ak) (h : RU r q G w u) (hw : i64w a.epoch) (hs : a.data.size ≤ 1000000) :
    Calls Try.prog 13 #[ptrU r, askV a] w fun e w' => e = .returned (ansV (u.ans a) none 0) ∧ Leaves (RU r q) G w w' (u.done a) := by
  by_cases hd : u.down = true
  · exact rdo_down r q G w u a h hd
  have hd' : u.down = false := Bool.eq_false_iff.2 hd
  by_cases h1 : a.kind < 1
  · exact rdo_low r q G w u a h hd' h1
  by_cases h5 : 5 < a.kind
  · exact rdo_high r q G w u a h hd' h5
  by_cases he : a.epoch < u.epoch
  · exact rdo_sealed r q G w u a h hd' ⟨by omega, by omega⟩ he
  have hk : a.kind = 1 ∨ a.kind = 2 ∨ a.kind = 3 ∨ a.kind = 4 ∨ a.kind = 5 := by omega
  rcases hk with hk | hk | hk | hk | hk
  · exact rdo_write r q G w u a h hd' hk he hs
  · exact rdo_fill r q G w u a h hd' hk he
  · exact rdo_read r q G w u a h hd' hk he
  · exact rdo_trim r q G w u a h hd' hk he
  · exact rdo_seal r q G w u a h hd' hk he hw
section
variable {UG : Nat → Nat → (Nat → Prop) → World → Us → Prop} {X : Nat → Prop} {w : World} {b pb r q : Nat} {u v : Us}
theorem s_ask (HS : UnitSays UG) (h : Side (UG b pb) (RU r q) X w u v) {a : Ak} (ha : AkIn w a) (hs : a.data.size ≤ 1000000) : Calls Try.prog 12 #[ptrV b, askV a] w fun e w' => e = .returned (anV (u.ans a).code (u.ans a).n (u.ans a).data (u.ans a).epoch) ∧ Side (UG b pb) (RU r q) X w' (u.done a) v ∧ Kept X w w' :=
  side_left (R := fun e => e = .returned (anV (u.ans a).code (u.ans a).n (u.ans a).data (u.ans a).epoch)) (HS.thing b pb) (ru_thing r q) h (fun F hF => HS.ask b pb F w u a hF ha hs)
theorem s_rask (HS : UnitSays UG) (h : Side (UG b pb) (RU r q) X w u v) {a : Ak} (hw : i64w a.epoch) (hs : a.data.size ≤ 1000000) : Calls Try.prog 13 #[ptrU r, askV a] w fun e w' => e = .returned (anV (v.ans a).code (v.ans a).n (v.ans a).data (v.ans a).epoch) ∧ Side (UG b pb) (RU r q) X w' u (v.done a) ∧ Kept X w w' :=
  side_right (R := fun e => e = .returned (anV (v.ans a).code (v.ans a).n (v.ans a).data (v.ans a).epoch)) (HS.thing b pb) (ru_thing r q) h (fun F hF => by rw [← ansV_U]; exact rdo_any r q F w v a hF hw hs)
theorem s_crash (HS : UnitSays UG) (h : Side (UG b pb) (RU r q) X w u v) : Calls Try.prog 14 #[ptrV b] w fun e w' => e = .returned (.tuple #[]) ∧ Side (UG b pb) (RU r q) X w' ⟨u.p, u.epoch, true⟩ v ∧ Kept X w w' :=
  side_left (R := fun e => e = .returned (.tuple #[])) (HS.thing b pb) (ru_thing r q) h (fun F hF => HS.crash b pb F w u hF)
theorem s_start (HS : UnitSays UG) (h : Side (UG b pb) (RU r q) X w u v) : Calls Try.prog 15 #[ptrV b] w fun e w' => e = .returned (.tuple #[]) ∧ Side (UG b pb) (RU r q) X w' ⟨u.p, u.epoch, false⟩ v ∧ Kept X w w' :=
  side_left (R := fun e => e = .returned (.tuple #[])) (HS.thing b pb) (ru_thing r q) h (fun F hF => HS.start b pb F w u hF)
/-- a look at the program's unit -/
theorem s_look {z : Value} {fn : FuncId} {args : Array Value} (HS : UnitSays UG) (h : Side (UG b pb) (RU r q) X w u v) (hc : ∀ G : Nat → Prop, UG b pb G w u → Calls Try.prog fn args w fun e w' => e = .returned z ∧ Below w.heap.size w w') : Calls Try.prog fn args w fun e w' => e = .returned z ∧ Below w.heap.size w w' := by
  obtain ⟨_, F, G, h2, _⟩ := h
  exact hc F h2
theorem s_rused (h : Side (UG b pb) (RU r q) X w u v) : Calls Try.prog 20 #[.pointer (some ⟨q, 0, none⟩)] w fun e w' => e = .returned (.int .i64 v.p.l.length) ∧ Below w.heap.size w w' := by
  obtain ⟨_, F, G, _, ⟨_, _, _, H, h3, _⟩, _⟩ := h
  exact (rused_any H w q v.p h3).mono fun e w' ⟨he, hw⟩ => ⟨he, hw ▸ Below.refl _ _⟩
theorem s_rtail (h : Side (UG b pb) (RU r q) X w u v) : Calls Try.prog 22 #[.pointer (some ⟨q, 0, none⟩)] w fun e w' => e = .returned (.int .i64 v.p.tail) ∧ Below w.heap.size w w' := by
  obtain ⟨_, F, G, _, ⟨⟨hok, _⟩, _, _, H, h3, _⟩, _⟩ := h
  exact (rtail_any H w q v.p h3 hok).mono fun e w' ⟨he, hw⟩ => ⟨he, hw ▸ Below.refl _ _⟩
/-- the document's unit's own three cells -/
theorem s_cells (h : Side (UG b pb) (RU r q) X w u v) : w.cell? ⟨r, 0, none⟩ = some (.pointer (some ⟨q, 0, none⟩)) ∧ w.cell? ⟨r, 1, none⟩ = some (.int .i64 v.epoch) ∧ w.cell? ⟨r, 2, none⟩ = some (.bool v.down) ∧ w.frozen? ⟨r, 2, none⟩ = false := by
  obtain ⟨_, F, G, _, ⟨_, h3, _⟩, _⟩ := h
  obtain ⟨c0, c1, c2, _, _, f2⟩ := three_cells h3
  exact ⟨c0, c1, c2, f2⟩
/-- the law itself turns the document's unit off, or on -/
theorem s_set (HS : UnitSays UG) (h : Side (UG b pb) (RU r q) X w u v) (d : Bool) : Side (UG b pb) (RU r q) X (w.setCell ⟨r, 2, none⟩ (.bool d)) u ⟨v.p, v.epoch, d⟩ ∧ Kept X w (w.setCell ⟨r, 2, none⟩ (.bool d)) := by
  refine h.right_step (HS.thing b pb) (ru_thing r q) (fun G hG => ?_)
  obtain ⟨k1, k3, k4, F, k5, k6, k7, k8⟩ := hG
  have hk : Kept (fun k => k ≠ r) w (w.setCell ⟨r, 2, none⟩ (.bool d)) := (Kept.refl _ w).setCell (p := ⟨r, 2, none⟩) (fun h => h rfl) _
  exact ⟨G, ⟨k1, three_set2 k3 _, k4, F, k5.keep hk (fun k hf e => k7 (e ▸ hf)), k6, k7, k8⟩, (Kept.refl _ w).setCell (p := ⟨r, 2, none⟩) (fun hn => hn k4) _, fun k hk => .inl hk⟩
end
end Go.Proofs.Ytaodmdoagngdnaa
