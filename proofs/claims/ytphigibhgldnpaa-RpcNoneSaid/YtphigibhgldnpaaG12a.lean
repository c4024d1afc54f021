/- What the program's own put, Write, Fill and Read make of pages, and return. Conditions: the object lies where the call was told; its pages are as the calls make them. -/
import Derived.Test.YtphigibhgldnpaaG11c
import Derived.Deep.RegionWith
set_option linter.unusedVariables false
namespace Go.Proofs.Ytphigibhgldnpaa
open Go.RowKit Go.Maps
set_option linter.unusedVariables false
set_option maxRecDepth 20000
theorem left_same {G : Nat → Prop} {w : World} {b : Nat} {p : Ps} (h : PGm G w b p) : Left PGm G w w b p := ⟨G, h, Kept.refl _ w, fun k hk => .inl hk⟩
theorem left_drawn {G : Nat → Prop} {w w' : World} {b : Nat} {p : Ps} (h : PGm G w b p) (hb : Below w.heap.size w w') : Left PGm G w w' b p := ⟨G, h.below hb, Kept.ofBelow hb _, fun k hk => .inl hk⟩
/-- a page is laid into the map -/
theorem put_ready {G : Nat → Prop} {w w1 : World} {b mb : Nat} {p : Ps} {x : Pg} (h1 : w.heap[b]? = some (.cells #[.int .i64 p.room, .int .i64 p.edge, .map (some mb)] 67 (0, 0))) (h2 : Tp w mb p.l) (h3 : mb ≠ b) (h4 : G b) (h5 : G mb) (h6 : ∀ k, G k → k < w.heap.size)
    (hb : Below w.heap.size w w1) (hx : (Lit.int .i64 x.at_).wf = true) (hn : x.at_ ∉ p.l.map (·.at_)) (hl : p.l.length ≤ 100000) :
    ∃ w2, (Instr.mapUpdate 65 (.map (some mb)) (.agg #[.int .i64 x.at_]) (.agg #[.int .i64 x.kind, .string x.s])).run Try.prog w1 = .ok () w2 ∧ Left PGm G w w2 b (p.add x) := by
  obtain ⟨w2, hr, hT, hg⟩ := (h2.below hb).put hx hn hl
  have hbl : b < w1.heap.size := Nat.lt_of_lt_of_le (h6 b h4) hb.size
  refine ⟨w2, hr, G, ⟨mb, (hg.block b hbl (fun e => h3 (Option.some.inj e).symm)).trans (below_heap hb h1), hT, h3, h4, h5, fun k hk => Nat.lt_of_lt_of_le (h6 k hk) (Nat.le_trans hb.size hg.size)⟩, (Kept.ofBelow hb _).grown hg (fun k e => by cases e; exact fun hn => hn h5), fun k hk => .inl hk⟩
set_option maxHeartbeats 8000000 in
theorem put_any (G : Nat → Prop) (w : World) (b : Nat) (p : Ps) (a kd : Int) (s : ByteArray) (h : PGm G w b p) (ht : thereB a = true) (hn : a ∉ p.l.map (·.at_)) (hs : s.size ≤ 1000000) (hl : p.l.length ≤ 100000) :
    Calls Try.prog 99 #[.pointer (some ⟨b, 0, none⟩), .int .i64 a, .int .i64 kd, .string s] w fun e w' => e = .returned (.int .i64 (if p.room ≤ p.l.length then 44 else 0)) ∧ Left PGm G w w' b (if p.room ≤ p.l.length then p else p.add ⟨a, kd, s⟩) := by
  have HP := Lib.hid h
  obtain ⟨mb, h1, h2, h3, h4, h5, h6⟩ := h
  obtain ⟨c0, c1, c2, _⟩ := three_cells h1
  have hc := fun (n : Nat) (ty : TypeId) => h2.count ty (w.drewN n) rfl
  by_cases hr : p.room ≤ p.l.length
  · have HL := Lib.hid (fun n => left_drawn HP.out (below_drewN (Below.refl w.heap.size w) n))
    rw [if_pos hr, if_pos hr]
    have hd : decide (p.room ≤ (p.l.length : Int)) = true := decide_eq_true hr
    clear h1 h2 h3 h4 h5 h6 hn ht hr HP
    go_enter Try.func99, Try.ntmps99
    go_wp2_with fail
    go_quiet (fail)
    go_wp2_with fail
    go_ret
    exact ⟨rfl, HL.out _⟩
  · have hd : decide (p.room ≤ (p.l.length : Int)) = false := decide_eq_false hr
    have HR := Lib.hid (fun w1 hb => @put_ready G w w1 b mb p ⟨a, kd, s⟩ h1 h2 h3 h4 h5 h6 hb (there_wf ht) hn hl)
    rw [if_neg hr, if_neg hr]
    have HC := Lib.hid (fun w1 (hb : Below w.heap.size w w1) => (three_cells (below_heap hb h1)).2.2.1)
    have HB := Lib.hid (fun n => below_drewN (Below.refl w.heap.size w) n)
    have HS := Lib.hid (show s.size ≤ 1099511627776 by omega)
    clear h1 h2 h3 h4 h5 h6 hn ht hr HP
    generalize p.add ⟨a, kd, s⟩ = p2 at *
    go_enter Try.func99, Try.ntmps99
    go_wp2_with fail
    go_quiet (fail)
    go_wp2_with fail
    have HBQ := Lib.hid ((HB.out nq).drew)
    have e2 := HC.out _ (HB.out nq)
    clear c0 c1 c2 hc hd
    generalize w.drewN nq = wq at *
    go_region_with (go_at_call 100; refine (clone_any s _ HS.out).mono ?_; rintro e w1 ⟨rfl, hb1⟩; have hb2 := HBQ.out.trans (hb1.mono HBQ.out.size); have d2 := HC.out _ hb2; obtain ⟨w2, hup, hlf⟩ := HR.out _ hb2; have HLF := Lib.hid hlf; clear hb1 hb2 hlf)
    all_goals
      go_wp2_with fail
      go_ret
      exact ⟨rfl, HLF.out⟩
end Go.Proofs.Ytphigibhgldnpaa
