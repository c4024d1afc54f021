/- What the program's own put, Write, Fill and Read make of pages, and return. Conditions: the object lies where the call was told; its pages are as the calls make them. Plain facts on projections: units that were met so far, chain by chain. No conditions. What the document's own unit answers any question, and is behind it; the program's unit and it side by side. Conditions: the program's functions return what UnitSays says. -/
import Derived.Test.YtphigibhgldnpaaGreatG11d
import Derived.Deep.RegionWith
import Derived.Test.YtphigibhgldnpaaGreatG11a
import Derived.Test.YtphigibhgldnpaaGreatG03a
import Derived.Test.YtphigibhgldnpaaGreatG11b
import Derived.Test.YtphigibhgldnpaaGreatG11c
import Derived.Test.YtphigibhgldnpaaGreatG10b
set_option linter.unusedVariables false
namespace Go.Proofs.YtphigibhgldnpaaGreat
open Go.RowKit Go.Maps
set_option linter.unusedVariables false
set_option maxRecDepth 20000
theorem left_same {G : Nat → Prop} {w : World} {b : Nat} {p : Ps} (h : PGm G w b p) : Left PGm G w w b p := ⟨G, h, Kept.refl _ w, fun k hk => .inl hk⟩
theorem left_drawn {G : Nat → Prop} {w w' : World} {b : Nat} {p : Ps} (h : PGm G w b p) (hb : Below w.heap.size w w') : Left PGm G w w' b p := ⟨G, h.below hb, Kept.ofBelow hb _, fun k hk => .inl hk⟩
/-- a page is laid into the map -/
theorem put_ready {G : Nat → Prop} {w w1 : World} {b mb : Nat} {p : Ps} {x : Pg} (h1 : w.heap[b]? = some (.cells #[.int .i64 p.room, .int .i64 p.edge, .map (some mb)] 92 (0, 0))) (h2 : Tp w mb p.l) (h3 : mb ≠ b) (h4 : G b) (h5 : G mb) (h6 : ∀ k, G k → k < w.heap.size)
    (hb : Below w.heap.size w w1) (hx : (Lit.int .i64 x.at_).wf = true) (hn : x.at_ ∉ p.l.map (·.at_)) (hl : p.l.length ≤ 100000) :
    ∃ w2, (Instr.mapUpdate 90 (.map (some mb)) (.agg #[.int .i64 x.at_]) (.agg #[.int .i64 x.kind, .string x.s])).run Tryz.prog w1 = .ok () w2 ∧ Left PGm G w w2 b (p.add x) := by
  obtain ⟨w2, hr, hT, hg⟩ := (h2.below hb).put hx hn hl
  have hbl : b < w1.heap.size := Nat.lt_of_lt_of_le (h6 b h4) hb.size
  refine ⟨w2, hr, G, ⟨mb, (hg.block b hbl (fun e => h3 (Option.some.inj e).symm)).trans (below_heap hb h1), hT, h3, h4, h5, fun k hk => Nat.lt_of_lt_of_le (h6 k hk) (Nat.le_trans hb.size hg.size)⟩, (Kept.ofBelow hb _).grown hg (fun k e => by cases e; exact fun hn => hn h5), fun k hk => .inl hk⟩
set_option maxHeartbeats 8000000 in
theorem put_any (G : Nat → Prop) (w : World) (b : Nat) (p : Ps) (a kd : Int) (s : ByteArray) (h : PGm G w b p) (ht : thereB a = true) (hn : a ∉ p.l.map (·.at_)) (hs : s.size ≤ 1000000) (hl : p.l.length ≤ 100000) :
    Calls Tryz.prog 127 #[.pointer (some ⟨b, 0, none⟩), .int .i64 a, .int .i64 kd, .string s] w fun e w' => e = .returned (.int .i64 (if p.room ≤ p.l.length then 44 else 0)) ∧ Left PGm G w w' b (if p.room ≤ p.l.length then p else p.add ⟨a, kd, s⟩) := by
  have HP := Lib.hid h
  obtain ⟨mb, h1, h2, h3, h4, h5, h6⟩ := h
  obtain ⟨c0, c1, c2, _⟩ := three_cells h1
  have hc := fun (n : Nat) (ty : TypeId) => h2.count ty (w.drewN n) rfl
  by_cases hr : p.room ≤ p.l.length
  · have HL := Lib.hid (fun n => left_drawn HP.out (below_drewN (Below.refl w.heap.size w) n))
    rw [if_pos hr, if_pos hr]
    have hd : decide (p.room ≤ (p.l.length : Int)) = true := decide_eq_true hr
    clear h1 h2 h3 h4 h5 h6 hn ht hr HP
    go_enter Tryz.func127, Tryz.ntmps127
    go_wp2_with fail
    go_quiet (fail)
    go_wp2_with fail
    go_ret
    exact ⟨rfl, HL.out _⟩
  · have hd : decide (p.room ≤ (p.l.length : Int)) = false := decide_eq_false hr
    have HR := Lib.hid (fun w1 hb => @put_ready G w w1 b mb p ⟨a, kd, s⟩ h1 h2 h3 h4 h5 h6 hb (there_wf ht) hn hl)
    rw [if_neg hr, if_neg hr]
    have HC := Lib.hid (fun w1 (hb : Below w.heap.size w w1) => (three_cells (below_heap hb h1)).2.2.1)
    have HB := Lib.hid (fun n => below_drewN (Below.refl w.heap.size w) n)
    have HS := Lib.hid (show s.size ≤ 1099511627776 by omega)
    clear h1 h2 h3 h4 h5 h6 hn ht hr HP
    generalize p.add ⟨a, kd, s⟩ = p2 at *
    go_enter Tryz.func127, Tryz.ntmps127
    go_wp2_with fail
    go_quiet (fail)
    go_wp2_with fail
    have HBQ := Lib.hid ((HB.out nq).drew)
    have e2 := HC.out _ (HB.out nq)
    clear c0 c1 c2 hc hd
    generalize w.drewN nq = wq at *
    go_region_with (go_at_call 128; refine (clone_any s _ HS.out).mono ?_; rintro e w1 ⟨rfl, hb1⟩; have hb2 := HBQ.out.trans (hb1.mono HBQ.out.size); have d2 := HC.out _ hb2; obtain ⟨w2, hup, hlf⟩ := HR.out _ hb2; have HLF := Lib.hid hlf; clear hb1 hb2 hlf)
    all_goals
      go_wp2_with fail
      go_ret
      exact ⟨rfl, HLF.out⟩
end Go.Proofs.YtphigibhgldnpaaGreat
namespace Go.Proofs.YtphigibhgldnpaaGreat
open Go.RowKit
/-- the units of n chains, and of k units of the next -/
def preU (L : List (List Int)) (n k : Nat) : List Int := (L.take n).flatten ++ (L.getD n []).take k
theorem preU_succ {L : List (List Int)} {n k : Nat} (hn : n < L.length) (hk : k < L[n].length) : preU L n (k + 1) = preU L n k ++ [L[n][k]] := by
  unfold preU
  have e : L.getD n [] = L[n] := by simp [hn]
  rw [e, List.take_succ_eq_append_getElem hk, List.append_assoc]
theorem preU_chain {L : List (List Int)} {n : Nat} (hn : n < L.length) : preU L n L[n].length = preU L (n + 1) 0 := by
  unfold preU
  have e : L.getD n [] = L[n] := by simp [hn]
  rw [e, List.take_of_length_le (Nat.le_refl _), List.take_zero, List.append_nil, List.take_succ_eq_append_getElem hn, List.flatten_append]
  simp
theorem preU_all (L : List (List Int)) : preU L L.length 0 = L.flatten := by
  unfold preU
  rw [List.take_zero, List.append_nil, List.take_of_length_le (Nat.le_refl _)]
theorem preU_zero (L : List (List Int)) : preU L 0 0 = [] := rfl
theorem preU_nodup {L : List (List Int)} (h : L.flatten.Nodup) {n k : Nat} (hn : n < L.length) (hk : k < L[n].length) : L[n][k] ∉ preU L n k := by
  have e : L.flatten = preU L n k ++ (L[n].drop k ++ (L.drop (n + 1)).flatten) := by
    unfold preU
    have e : L.getD n [] = L[n] := by simp [hn]
    rw [e]
    have h1 : L = L.take n ++ (L[n] :: L.drop (n + 1)) := by rw [← List.drop_eq_getElem_cons hn, List.take_append_drop]
    have h2 : L.flatten = (L.take n ++ (L[n] :: L.drop (n + 1))).flatten := congrArg List.flatten h1
    rw [h2, List.flatten_append, List.flatten_cons, List.append_assoc, ← List.append_assoc (L[n].take k), List.take_append_drop]
  rw [e, List.nodup_append] at h
  intro hin
  exact h.2.2 _ hin _ (List.mem_append_left _ (by rw [List.drop_eq_getElem_cons hk]; exact List.mem_cons_self)) rfl
theorem preU_len {L : List (List Int)} {n k : Nat} (hl : L.length ≤ 255 ∧ ∀ c ∈ L, c.length ≤ 255) (hn : n < L.length) : (preU L n k).length ≤ 70000 := by
  unfold preU
  have h2 := flat_le (L.take n) 255 (fun c hc => hl.2 c (List.mem_of_mem_take hc))
  have h3 := hl.2 L[n] (List.getElem_mem hn)
  have h4 : ((L.getD n []).take k).length ≤ L[n].length := by
    have e : L.getD n [] = L[n] := by simp [hn]
    rw [e, List.length_take]
    exact Nat.min_le_right _ _
  have h5 : (L.take n).length ≤ 255 := by rw [List.length_take]; omega
  have h6 : 255 * (L.take n).length ≤ 255 * 255 := Nat.mul_le_mul_left _ h5
  rw [List.length_append]
  omega
theorem preU_mem {L : List (List Int)} {n k : Nat} {u : Int} (h : u ∈ preU L n k) : u ∈ L.flatten := by
  unfold preU at h
  rcases List.mem_append.1 h with h | h
  · obtain ⟨c, hc, hu⟩ := List.mem_flatten.1 h
    exact List.mem_flatten.2 ⟨c, List.mem_of_mem_take hc, hu⟩
  · have h2 := List.mem_of_mem_take h
    by_cases hn : n < L.length
    · rw [show L.getD n [] = L[n] by simp [hn]] at h2
      exact List.mem_flatten.2 ⟨_, List.getElem_mem hn, h2⟩
    · rw [show L.getD n [] = [] by simp [hn]] at h2
      cases h2
theorem preU_wf {w : World} {ao : Option Addr} {L : List (List Int)} (h : CL w ao L) (n k : Nat) : ∀ u ∈ preU L n k, (Lit.int .i64 u).wf = true := by
  intro u hu
  obtain ⟨c, hc, huc⟩ := List.mem_flatten.1 (preU_mem hu)
  obtain ⟨i, hi, rfl⟩ := List.getElem_of_mem hc
  obtain ⟨_, _, _, _, _, _, hN⟩ := h i hi
  exact hN.wf u huc
theorem goodB_dup {ep : Int} {L : List (List Int)} {n k : Nat} (hn : n < L.length) (hk : k < L[n].length) (h : L[n][k] ∈ preU L n k) : goodB ep L = false := by
  rw [Bool.eq_false_iff]
  intro e
  exact preU_nodup (goodB_iff.1 e).2.2.2 hn hk h
theorem goodB_done {ep : Int} {L : List (List Int)} (h0 : 0 ≤ ep ∧ ep ≤ 2147483647) (h1 : 1 ≤ L.length ∧ L.length ≤ 4) (h : ∀ c ∈ L.take L.length, chainB c = true) (h2 : (preU L L.length 0).Nodup) : goodB ep L = true := by
  rw [List.take_of_length_le (Nat.le_refl _)] at h
  rw [preU_all] at h2
  exact goodB_iff.2 ⟨h0, h1, h, h2⟩
theorem nodup_snoc {l : List Int} {u : Int} (h : l.Nodup) (hu : u ∉ l) : (l ++ [u]).Nodup := by
  rw [List.nodup_append]
  refine ⟨h, by simp, fun a ha b hb e => ?_⟩
  rw [List.mem_singleton] at hb
  subst hb
  exact hu (e ▸ ha)
end Go.Proofs.YtphigibhgldnpaaGreat
namespace Go.Proofs.YtphigibhgldnpaaGreat
set_option linter.unusedVariables false
open Go.RowKit
set_option maxRecDepth 20000
theorem rdo_any (r q : Nat) (G : Nat → Prop) (w : World) (u : Us) (a : Ak) (h : RU r q G w u) (hw : i64w a.epoch) (hs : a.data.size ≤ 1000000) :
    Calls Tryz.prog 31 #[ptrU r, askV a] w fun e w' => e = .returned (ansV (u.ans a) none 0) ∧ Leaves (RU r q) G w w' (u.done a) := by
  by_cases hd : u.down = true
  · exact rdo_down r q G w u a h hd
  have hd' : u.down = false := Bool.eq_false_iff.2 hd
  by_cases h1 : a.kind < 1
  · exact rdo_low r q G w u a h hd' h1
  by_cases h5 : 5 < a.kind
  · exact rdo_high r q G w u a h hd' h5
  by_cases he : a.epoch < u.epoch
  · exact rdo_sealed r q G w u a h hd' ⟨by omega, by omega⟩ he
  have hk : a.kind = 1 ∨ a.kind = 2 ∨ a.kind = 3 ∨ a.kind = 4 ∨ a.kind = 5 := by omega
  rcases hk with hk | hk | hk | hk | hk
  · exact rdo_write r q G w u a h hd' hk he hs
  · exact rdo_fill r q G w u a h hd' hk he
  · exact rdo_read r q G w u a h hd' hk he
  · exact rdo_trim r q G w u a h hd' hk he
  · exact rdo_seal r q G w u a h hd' hk he hw
section
variable {UG : Nat → Nat → (Nat → Prop) → World → Us → Prop} {X : Nat → Prop} {w : World} {b pb r q : Nat} {u v : Us}
theorem s_ask (HS : UnitSays UG) (h : Side (UG b pb) (RU r q) X w u v) {a : Ak} (ha : AkIn w a) (hs : a.data.size ≤ 1000000) : Calls Tryz.prog 112 #[ptrV b, askV a] w fun e w' => e = .returned (anV (u.ans a).code (u.ans a).n (u.ans a).data (u.ans a).epoch) ∧ Side (UG b pb) (RU r q) X w' (u.done a) v ∧ Kept X w w' :=
  side_left (R := fun e => e = .returned (anV (u.ans a).code (u.ans a).n (u.ans a).data (u.ans a).epoch)) (HS.thing b pb) (ru_thing r q) h (fun F hF => HS.ask b pb F w u a hF ha hs)
theorem s_rask (HS : UnitSays UG) (h : Side (UG b pb) (RU r q) X w u v) {a : Ak} (hw : i64w a.epoch) (hs : a.data.size ≤ 1000000) : Calls Tryz.prog 31 #[ptrU r, askV a] w fun e w' => e = .returned (anV (v.ans a).code (v.ans a).n (v.ans a).data (v.ans a).epoch) ∧ Side (UG b pb) (RU r q) X w' u (v.done a) ∧ Kept X w w' :=
  side_right (R := fun e => e = .returned (anV (v.ans a).code (v.ans a).n (v.ans a).data (v.ans a).epoch)) (HS.thing b pb) (ru_thing r q) h (fun F hF => by rw [← ansV_U]; exact rdo_any r q F w v a hF hw hs)
/-- a look at the program's unit -/
theorem s_look {z : Value} {fn : FuncId} {args : Array Value} (HS : UnitSays UG) (h : Side (UG b pb) (RU r q) X w u v) (hc : ∀ G : Nat → Prop, UG b pb G w u → Calls Tryz.prog fn args w fun e w' => e = .returned z ∧ Below w.heap.size w w') : Calls Tryz.prog fn args w fun e w' => e = .returned z ∧ Below w.heap.size w w' := by
  obtain ⟨_, F, G, h2, _⟩ := h
  exact hc F h2
theorem s_rused (h : Side (UG b pb) (RU r q) X w u v) : Calls Tryz.prog 35 #[.pointer (some ⟨q, 0, none⟩)] w fun e w' => e = .returned (.int .i64 v.p.l.length) ∧ Below w.heap.size w w' := by
  obtain ⟨_, F, G, _, ⟨_, _, _, H, h3, _⟩, _⟩ := h
  exact (rused_any H w q v.p h3).mono fun e w' ⟨he, hw⟩ => ⟨he, hw ▸ Below.refl _ _⟩
theorem s_rtail (h : Side (UG b pb) (RU r q) X w u v) : Calls Tryz.prog 37 #[.pointer (some ⟨q, 0, none⟩)] w fun e w' => e = .returned (.int .i64 v.p.tail) ∧ Below w.heap.size w w' := by
  obtain ⟨_, F, G, _, ⟨⟨hok, _⟩, _, _, H, h3, _⟩, _⟩ := h
  exact (rtail_any H w q v.p h3 hok).mono fun e w' ⟨he, hw⟩ => ⟨he, hw ▸ Below.refl _ _⟩
/-- the document's unit's own three cells -/
theorem s_cells (h : Side (UG b pb) (RU r q) X w u v) : w.cell? ⟨r, 0, none⟩ = some (.pointer (some ⟨q, 0, none⟩)) ∧ w.cell? ⟨r, 1, none⟩ = some (.int .i64 v.epoch) ∧ w.cell? ⟨r, 2, none⟩ = some (.bool v.down) ∧ w.frozen? ⟨r, 2, none⟩ = false := by
  obtain ⟨_, F, G, _, ⟨_, h3, _⟩, _⟩ := h
  obtain ⟨c0, c1, c2, _, _, f2⟩ := three_cells h3
  exact ⟨c0, c1, c2, f2⟩
/-- the law itself turns the document's unit off, or on -/
theorem s_set (HS : UnitSays UG) (h : Side (UG b pb) (RU r q) X w u v) (d : Bool) : Side (UG b pb) (RU r q) X (w.setCell ⟨r, 2, none⟩ (.bool d)) u ⟨v.p, v.epoch, d⟩ ∧ Kept X w (w.setCell ⟨r, 2, none⟩ (.bool d)) := by
  refine h.right_step (HS.thing b pb) (ru_thing r q) (fun G hG => ?_)
  obtain ⟨k1, k3, k4, F, k5, k6, k7, k8⟩ := hG
  have hk : Kept (fun k => k ≠ r) w (w.setCell ⟨r, 2, none⟩ (.bool d)) := (Kept.refl _ w).setCell (p := ⟨r, 2, none⟩) (fun h => h rfl) _
  exact ⟨G, ⟨k1, three_set2 k3 _, k4, F, k5.keep hk (fun k hf e => k7 (e ▸ hf)), k6, k7, k8⟩, (Kept.refl _ w).setCell (p := ⟨r, 2, none⟩) (fun hn => hn k4) _, fun k hk => .inl hk⟩
end
end Go.Proofs.YtphigibhgldnpaaGreat
