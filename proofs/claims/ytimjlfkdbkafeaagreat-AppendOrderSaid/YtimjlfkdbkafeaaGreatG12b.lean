/- What the program's own put, Write, Fill and Read make of pages, and return. Conditions: the object lies where the call was told; its pages are as the calls make them. The document's own layout in memory, and what its New makes. No conditions but those that the statements name. Plain facts on appends that go on between each other, each question heard: they end at addresses of their own. No conditions but those that the statements name. What the document's own Of and Addr return. Conditions: the projection lies where the call was told, and is not too large. -/
import Derived.Test.YtimjlfkdbkafeaaGreatG11b
import Derived.Deep.RegionWith
import Derived.Test.YtimjlfkdbkafeaaGreatG07a
import Derived.Test.YtimjlfkdbkafeaaGreatG03a
import Derived.Test.YtimjlfkdbkafeaaGreatG11a
import Derived.Test.YtimjlfkdbkafeaaGreatG10b
import Derived.Deep.RegionHeld3
import Derived.Deep.RegionHeldLaw
import Derived.Test.YtimjlfkdbkafeaaGreatG03b
set_option linter.unusedVariables false
namespace Go.Proofs.YtimjlfkdbkafeaaGreat
open Go.RowKit Go.Maps
set_option linter.unusedVariables false
set_option maxRecDepth 20000
theorem left_same {G : Nat → Prop} {w : World} {b : Nat} {p : Ps} (h : PGm G w b p) : Left PGm G w w b p := ⟨G, h, Kept.refl _ w, fun k hk => .inl hk⟩
theorem left_drawn {G : Nat → Prop} {w w' : World} {b : Nat} {p : Ps} (h : PGm G w b p) (hb : Below w.heap.size w w') : Left PGm G w w' b p := ⟨G, h.below hb, Kept.ofBelow hb _, fun k hk => .inl hk⟩
/-- a page is laid into the map -/
theorem put_ready {G : Nat → Prop} {w w1 : World} {b mb : Nat} {p : Ps} {x : Pg} (h1 : w.heap[b]? = some (.cells #[.int .i64 p.room, .int .i64 p.edge, .map (some mb)] 107 (0, 0))) (h2 : Tp w mb p.l) (h3 : mb ≠ b) (h4 : G b) (h5 : G mb) (h6 : ∀ k, G k → k < w.heap.size)
    (hb : Below w.heap.size w w1) (hx : (Lit.int .i64 x.at_).wf = true) (hn : x.at_ ∉ p.l.map (·.at_)) (hl : p.l.length ≤ 100000) :
    ∃ w2, (Instr.mapUpdate 105 (.map (some mb)) (.agg #[.int .i64 x.at_]) (.agg #[.int .i64 x.kind, .string x.s])).run Tryz.prog w1 = .ok () w2 ∧ Left PGm G w w2 b (p.add x) := by
  obtain ⟨w2, hr, hT, hg⟩ := (h2.below hb).put hx hn hl
  have hbl : b < w1.heap.size := Nat.lt_of_lt_of_le (h6 b h4) hb.size
  refine ⟨w2, hr, G, ⟨mb, (hg.block b hbl (fun e => h3 (Option.some.inj e).symm)).trans (below_heap hb h1), hT, h3, h4, h5, fun k hk => Nat.lt_of_lt_of_le (h6 k hk) (Nat.le_trans hb.size hg.size)⟩, (Kept.ofBelow hb _).grown hg (fun k e => by cases e; exact fun hn => hn h5), fun k hk => .inl hk⟩
set_option maxHeartbeats 8000000 in
theorem put_any (G : Nat → Prop) (w : World) (b : Nat) (p : Ps) (a kd : Int) (s : ByteArray) (h : PGm G w b p) (ht : thereB a = true) (hn : a ∉ p.l.map (·.at_)) (hs : s.size ≤ 1000000) (hl : p.l.length ≤ 100000) :
    Calls Tryz.prog 148 #[.pointer (some ⟨b, 0, none⟩), .int .i64 a, .int .i64 kd, .string s] w fun e w' => e = .returned (.int .i64 (if p.room ≤ p.l.length then 44 else 0)) ∧ Left PGm G w w' b (if p.room ≤ p.l.length then p else p.add ⟨a, kd, s⟩) := by
  have HP := Lib.hid h
  obtain ⟨mb, h1, h2, h3, h4, h5, h6⟩ := h
  obtain ⟨c0, c1, c2, _⟩ := three_cells h1
  have hc := fun (n : Nat) (ty : TypeId) => h2.count ty (w.drewN n) rfl
  by_cases hr : p.room ≤ p.l.length
  · have HL := Lib.hid (fun n => left_drawn HP.out (below_drewN (Below.refl w.heap.size w) n))
    rw [if_pos hr, if_pos hr]
    have hd : decide (p.room ≤ (p.l.length : Int)) = true := decide_eq_true hr
    clear h1 h2 h3 h4 h5 h6 hn ht hr HP
    go_enter Tryz.func148, Tryz.ntmps148
    go_wp2_with fail
    go_quiet (fail)
    go_wp2_with fail
    go_ret
    exact ⟨rfl, HL.out _⟩
  · have hd : decide (p.room ≤ (p.l.length : Int)) = false := decide_eq_false hr
    have HR := Lib.hid (fun w1 hb => @put_ready G w w1 b mb p ⟨a, kd, s⟩ h1 h2 h3 h4 h5 h6 hb (there_wf ht) hn hl)
    rw [if_neg hr, if_neg hr]
    have HC := Lib.hid (fun w1 (hb : Below w.heap.size w w1) => (three_cells (below_heap hb h1)).2.2.1)
    have HB := Lib.hid (fun n => below_drewN (Below.refl w.heap.size w) n)
    have HS := Lib.hid (show s.size ≤ 1099511627776 by omega)
    clear h1 h2 h3 h4 h5 h6 hn ht hr HP
    generalize p.add ⟨a, kd, s⟩ = p2 at *
    go_enter Tryz.func148, Tryz.ntmps148
    go_wp2_with fail
    go_quiet (fail)
    go_wp2_with fail
    have HBQ := Lib.hid ((HB.out nq).drew)
    have e2 := HC.out _ (HB.out nq)
    clear c0 c1 c2 hc hd
    generalize w.drewN nq = wq at *
    go_region_with (go_at_call 35; refine (clone_any s _ HS.out).mono ?_; rintro e w1 ⟨rfl, hb1⟩; have hb2 := HBQ.out.trans (hb1.mono HBQ.out.size); have d2 := HC.out _ hb2; obtain ⟨w2, hup, hlf⟩ := HR.out _ hb2; have HLF := Lib.hid hlf; clear hb1 hb2 hlf)
    all_goals
      go_wp2_with fail
      go_ret
      exact ⟨rfl, HLF.out⟩
end Go.Proofs.YtimjlfkdbkafeaaGreat
namespace Go.Proofs.YtimjlfkdbkafeaaGreat
set_option linter.unusedVariables false
open Go.RowKit
set_option maxRecDepth 20000
theorem below_new (w : World) (x : Obj) : Below w.heap.size w (w.alloc x) := (Below.refl _ _).alloc (Nat.le_refl _) x
def ptrL (b : Nat) : Value := .pointer (some ⟨b, 0, none⟩)
/-- v is a slice of slices of numbers, the chains L, all of it in blocks of G -/
def CG (G : Nat → Prop) (w : World) (v : Value) (L : List (List Int)) : Prop := ∃ ao cap, v = .slice ao L.length cap ∧ (ao = none → cap = 0) ∧ L.length ≤ cap ∧ (∀ a, ao = some a → G a.block ∧ a.block < w.heap.size) ∧
  ∀ i (h : i < L.length), ∃ bk off ai ci, ao = some ⟨bk, off, none⟩ ∧ w.cell? ⟨bk, off + i, none⟩ = some (.slice ai L[i].length ci) ∧ NLI w ai ci L[i] ∧ ∀ a, ai = some a → G a.block ∧ a.block < w.heap.size
/-- v is a slice of the numbers l, in a block of G -/
def UG1 (G : Nat → Prop) (w : World) (v : Value) (l : List Int) : Prop := ∃ ao cap, v = .slice ao l.length cap ∧ NLI w ao cap l ∧ ∀ a, ao = some a → G a.block ∧ a.block < w.heap.size
theorem CG.keep {G S : Nat → Prop} {w w' : World} {v : Value} {L : List (List Int)} (h : CG G w v L) (hk : Kept S w w') (hS : ∀ k, G k → S k) : CG G w' v L := by
  obtain ⟨ao, cap, h1, h2, h3, h4, h5⟩ := h
  refine ⟨ao, cap, h1, h2, h3, fun a e => ⟨(h4 a e).1, Nat.lt_of_lt_of_le (h4 a e).2 hk.size⟩, fun i hi => ?_⟩
  obtain ⟨bk, off, ai, ci, r1, r2, r3, r4⟩ := h5 i hi
  exact ⟨bk, off, ai, ci, r1, cellK hk (hS _ (h4 _ r1).1) r2, r3.keep hk (fun a e => hS _ (r4 a e).1), fun a e => ⟨(r4 a e).1, Nat.lt_of_lt_of_le (r4 a e).2 hk.size⟩⟩
theorem UG1.keep {G S : Nat → Prop} {w w' : World} {v : Value} {l : List Int} (h : UG1 G w v l) (hk : Kept S w w') (hS : ∀ k, G k → S k) : UG1 G w' v l := by
  obtain ⟨ao, cap, h1, h2, h3⟩ := h
  exact ⟨ao, cap, h1, h2.keep hk (fun a e => hS _ (h3 a e).1), fun a e => ⟨(h3 a e).1, Nat.lt_of_lt_of_le (h3 a e).2 hk.size⟩⟩
theorem CG.mono {G S : Nat → Prop} {w : World} {v : Value} {L : List (List Int)} (h : CG G w v L) (hS : ∀ k, G k → S k) : CG S w v L := by
  obtain ⟨ao, cap, h1, h2, h3, h4, h5⟩ := h
  refine ⟨ao, cap, h1, h2, h3, fun a e => ⟨hS _ (h4 a e).1, (h4 a e).2⟩, fun i hi => ?_⟩
  obtain ⟨bk, off, ai, ci, r1, r2, r3, r4⟩ := h5 i hi
  exact ⟨bk, off, ai, ci, r1, r2, r3, fun a e => ⟨hS _ (r4 a e).1, (r4 a e).2⟩⟩
theorem UG1.mono {G S : Nat → Prop} {w : World} {v : Value} {l : List Int} (h : UG1 G w v l) (hS : ∀ k, G k → S k) : UG1 S w v l := by
  obtain ⟨ao, cap, h1, h2, h3⟩ := h
  exact ⟨ao, cap, h1, h2, fun a e => ⟨hS _ (h3 a e).1, (h3 a e).2⟩⟩
theorem CG.of {w : World} {B : Nat} {v : Value} {L : List (List Int)} (h : OC w B v L) : CG (fun k => B ≤ k ∧ k < w.heap.size) w v L := by
  obtain ⟨ao, cap, rfl, h2, h3, h4, h5⟩ := h.form
  refine ⟨ao, cap, rfl, h3, h4, fun a e => ⟨h5 a e, (h5 a e).2⟩, fun i hi => ?_⟩
  obtain ⟨xs, k1, k2⟩ := h
  obtain ⟨bk, off, ai, ci, r1, r2, r3⟩ := h2 i hi
  obtain ⟨aj, cj, q1, q2, q3⟩ := k2 i hi
  rcases k1.2 with ⟨e, h0⟩ | ⟨g, cap2, cur, e, hbg, hh, hnc, _, hcs, ht⟩
  · omega
  · cases e
    cases r1
    have h6 : (cur.toList.take (L.length * 1))[i]? = some (.slice aj L[i].length cj) := by rw [ht]; exact q1
    rw [List.getElem?_take, if_pos (by omega)] at h6
    have h7 : w.cell? ⟨bk, 0 + i, none⟩ = some (.slice aj L[i].length cj) := by
      rw [Nat.zero_add, ← (by simpa using h6 : cur[i]? = some (.slice aj L[i].length cj))]
      simp [World.cell?, hh]
    rw [h7] at r2
    have e2 := Option.some.inj r2
    have e3 := Value.slice.inj e2
    obtain ⟨rfl, _, rfl⟩ := e3
    exact ⟨bk, 0, aj, cj, rfl, h7, q2, fun a e => ⟨⟨(q3 a e).1, (q3 a e).2.1⟩, (q3 a e).2.1⟩⟩
theorem UG1.of {w : World} {B : Nat} {v : Value} {l : List Int} (h : OI w B v l) : UG1 (fun k => B ≤ k ∧ k < w.heap.size) w v l := by
  obtain ⟨ao, cap, h1, h2, h3, _⟩ := h.form
  exact ⟨ao, cap, h1, h2, fun a e => ⟨h3 a e, (h3 a e).2⟩⟩
theorem CG.cl {G : Nat → Prop} {w : World} {v : Value} {L : List (List Int)} (h : CG G w v L) : ∃ ao cap, v = .slice ao L.length cap ∧ CL w ao L ∧ (ao = none → cap = 0) ∧ L.length ≤ cap := by
  obtain ⟨ao, cap, h1, h2, h3, _, h5⟩ := h
  refine ⟨ao, cap, h1, fun i hi => ?_, h2, h3⟩
  obtain ⟨bk, off, ai, ci, r1, r2, r3, _⟩ := h5 i hi
  exact ⟨bk, off, ai, ci, r1, r2, r3⟩
/-- block r is the document's layout -/
def RL (r : Nat) (G : Nat → Prop) (w : World) (y : Ly) : Prop :=
  (∃ k, y.Ok k) ∧ G r ∧ ∃ (v u : Value) (F : Nat → Prop), w.heap[r]? = some (.cells #[.int .i64 y.ep, v, u, .int .i64 y.mark, .int .i64 y.size, .int .i64 y.n] 154 (0, 0)) ∧ CG F w v y.L ∧ UG1 F w u y.used ∧ (∀ k, F k → G k) ∧ ¬ F r ∧ ∀ k, G k → k < w.heap.size
theorem rl_thing (r : Nat) : Thing (RL r) where
  lt := by
    rintro G w y ⟨_, _, v, u, F, _, _, _, _, _, h⟩ k hk
    exact h k hk
  keep := by
    rintro G S w w' y ⟨h0, h1, v, u, F, h2, h3, h4, h5, h6, h7⟩ hk hS
    exact ⟨h0, h1, v, u, F, hk.heap (hS r h1) h2, h3.keep hk (fun k hf => hS k (h5 k hf)), h4.keep hk (fun k hf => hS k (h5 k hf)), h5, h6, fun k hg => Nat.lt_of_lt_of_le (h7 k hg) hk.size⟩
theorem newL_ok {ep : Int} {L : List (List Int)} (hg : goodB ep L = true) : (newL ep L).Ok (unitsR L).length := ⟨hg, Nat.le_refl _, by show (-1 : Int) ≤ -1 ∧ (-1 : Int) ≤ 16384; omega, by show (-1 : Int) ≤ -1 ∧ (-1 : Int) ≤ 16384; omega, by show (0 : Int) ≤ 0 ∧ (0 : Int) ≤ 65536; omega⟩
theorem rl_new_no (ep : Int) (ao : Option Addr) (cap : Nat) (L : List (List Int)) (w : World) (h : CL w ao L) (hl : L.length ≤ 255 ∧ ∀ c ∈ L, c.length ≤ 255) (hg : goodB ep L = false) :
    Calls Tryz.prog 51 #[.agg #[.int .i64 ep, .slice ao L.length cap]] w fun e w' => e = .returned (.tuple #[.pointer none, .int .i64 11]) ∧ Below w.heap.size w w' := by
  have HB0 := Lib.hid (below_new w (.cells #[.int .i64 ep, .slice ao L.length cap] 27))
  have CGD := Lib.hid (rgood_any ep ao cap L _ (h.below HB0.out) hl)
  rw [hg] at CGD
  clear h hl hg
  go_enter Tryz.func51, Tryz.ntmps51
  go_wp2_with (go_at_call 27; refine CGD.out.mono ?_; rintro e w1 ⟨rfl, hb1⟩; have HB1 := Lib.hid (HB0.out.trans (hb1.mono HB0.out.size)); clear hb1)
  go_ret2
  exact ⟨rfl, HB1.out⟩
section
variable {w w1 W W' : World} {ep : Int} {ao : Option Addr} {n cap b B : Nat} {L : List (List Int)}
theorem ns_cl (h : W.cell? ⟨b, 0, none⟩ = some (.int .i64 ep) ∧ W.cell? ⟨b, 1, none⟩ = some (.slice ao n cap) ∧ CL W ao L ∧ Below B w1 W) : CL W ao L := h.2.2.1
theorem ns_on (hz : B ≤ w1.heap.size) (h : W.cell? ⟨b, 0, none⟩ = some (.int .i64 ep) ∧ W.cell? ⟨b, 1, none⟩ = some (.slice ao n cap) ∧ CL W ao L ∧ Below B w1 W) (hb : Below W.heap.size W W') :
    W'.cell? ⟨b, 0, none⟩ = some (.int .i64 ep) ∧ W'.cell? ⟨b, 1, none⟩ = some (.slice ao n cap) ∧ CL W' ao L ∧ Below B w1 W' :=
  ⟨cellB hb (block_lt_of_cell h.1) h.1, cellB hb (block_lt_of_cell h.2.1) h.2.1, h.2.2.1.below hb, h.2.2.2.trans (hb.mono (Nat.le_trans hz h.2.2.2.size))⟩
end
set_option maxHeartbeats 4000000 in
theorem rl_new_yes (ep : Int) (ao : Option Addr) (cap : Nat) (L : List (List Int)) (w : World) (h : CL w ao L) (hl : L.length ≤ 255 ∧ ∀ c ∈ L, c.length ≤ 255) (hg : goodB ep L = true) :
    Calls Tryz.prog 51 #[.agg #[.int .i64 ep, .slice ao L.length cap]] w fun e w' => ∃ (r : Nat) (G : Nat → Prop), e = .returned (.tuple #[ptrL r, .int .i64 0]) ∧ RL r G w' (newL ep L) ∧ (∀ k, G k → w.heap.size ≤ k) ∧ Below w.heap.size w w' := by
  have HB0 := Lib.hid (below_new w (.cells #[.int .i64 ep, .slice ao L.length cap] 27))
  have HC := Lib.hid (h.below HB0.out)
  have HP := Lib.hid (show PB (w.alloc (.cells #[.int .i64 ep, .slice ao L.length cap] 27)) w.heap.size ep ao L.length cap from heap_alloc_new _ _)
  have HM := Lib.hid hl
  have HOK := Lib.hid (newL_ok hg)
  have HM2 := Lib.hid (show L.length ≤ 1000 ∧ ∀ c ∈ L, c.length ≤ 1000 from ⟨by have := hl.1; omega, fun c hc => by have := hl.2 c hc; omega⟩)
  have CGD := Lib.hid (rgood_any ep ao cap L _ HC.out hl)
  rw [hg] at CGD
  clear h hl hg
  go_enter Tryz.func51, Tryz.ntmps51
  go_wp2_with (go_at_call 27; refine CGD.out.mono ?_; rintro e w1 ⟨rfl, hb1⟩; have HB1 := Lib.hid (HB0.out.trans (hb1.mono HB0.out.size)); have HC1 := Lib.hid (show CL w1.drew ao L from (HC.out.below hb1).below (Below.refl _ _).drew); have HP1 := Lib.hid (HP.out.below hb1); obtain ⟨p0, p1⟩ := HP1.out.cells; have HZ1 := Lib.hid (show w.heap.size ≤ w1.heap.size from by have := hb1.size; simp at this; omega); clear hb1)
  go_region_held3 (fun W => W.cell? ⟨w.heap.size, 0, none⟩ = some (.int .i64 ep) ∧ W.cell? ⟨w.heap.size, 1, none⟩ = some (.slice ao L.length cap) ∧ CL W ao L ∧ Below w.heap.size w1 W)
    (first | exact ⟨p0, p1, HC1.out, (Below.refl _ _).drew⟩ | exact ns_on HZ1.out (by assumption) (below_new _ _) | exact ns_on HZ1.out (by assumption) hb3 | exact ns_on HZ1.out (by assumption) hb2)
    (first
      | (go_at_call 28; refine (keepCopyO_any ep ao cap L _ (ns_cl (by assumption)) HM2.out).mono ?_; rintro e w2 ⟨v, rfl, hO, hb2⟩; have HO := Lib.hid hO; obtain ⟨bo, cb, hv, _⟩ := hO.form; subst hv)
      | (go_at_call 46; refine (refUnitsO_any ep ao cap L _ (ns_cl (by assumption)) ⟨HM.out.1, fun c hc => Nat.le_trans (HM.out.2 c hc) (by decide)⟩).mono ?_; rintro e w3 ⟨u, rfl, hU, hb3⟩; have HU := Lib.hid hU; obtain ⟨bu, cu, hu, _⟩ := hU.form; subst hu))
  all_goals
    go_wp2_with fail
    go_ret2
    have B2 : Below w.heap.size w w2 := HB1.out.trans ((Below.trans (B := w1.heap.size) (Below.refl _ _).drew hb2).mono HZ1.out)
    have B3 : Below w.heap.size w w3 := B2.trans (hb3.mono B2.size)
    have B4 := below_new w3 (.cells #[.int .i64 ep, .slice bo L.length cb, .slice bu (unitsR L).length cu, .int .i64 (-1), .int .i64 0, .int .i64 (-1)] 154)
    have hs2 := hb2.size
    have hs3 := hb3.size
    have hz := HZ1.out
    have hd : w1.drew.heap.size = w1.heap.size := rfl
    refine ⟨w3.heap.size, fun k => w.heap.size ≤ k ∧ k ≤ w3.heap.size, rfl, ⟨⟨_, HOK.out⟩, ⟨by omega, Nat.le_refl _⟩, .slice bo L.length cb, .slice bu (unitsR L).length cu, fun k => w.heap.size ≤ k ∧ k < w3.heap.size, heap_alloc_new _ _, ?_, ?_, fun k hk => ⟨hk.1, Nat.le_of_lt hk.2⟩, fun hk => by have := hk.2; omega, fun k hk => by have := hk.2; simp; omega⟩, fun k hk => hk.1, B3.trans (B4.mono B3.size)⟩
    · exact (((CG.of HO.out).keep (Kept.ofBelow hb3 (fun _ => True)) (fun _ _ => trivial)).keep (Kept.ofBelow B4 (fun _ => True)) (fun _ _ => trivial)).mono (fun k hk => ⟨by have := hk.1; omega, by have := hk.2; omega⟩)
    · exact ((UG1.of HU.out).keep (Kept.ofBelow B4 (fun _ => True)) (fun _ _ => trivial)).mono (fun k hk => ⟨by have := hk.1; omega, hk.2⟩)
end Go.Proofs.YtimjlfkdbkafeaaGreat
namespace Go.Proofs.YtimjlfkdbkafeaaGreat
set_option linter.unusedVariables false
open Go.RowKit
theorem us_write {u : Us} {k : Ak} (up : u.down = false) (ep : u.epoch = 0) (edge : u.p.edge = 0) (hk : k.kind = 1) (he : k.epoch = 0) (hs : k.data.size ≤ 4096) (hp : 0 ≤ k.page ∧ k.page < 4096) (hq : findP u.p.l k.page = none) (hr : ¬ u.p.room ≤ u.p.l.length) :
    (u.ans k).code = 0 ∧ u.done k = ⟨u.p.add ⟨k.page, 1, k.data⟩, u.epoch, u.down⟩ := by
  have ht : thereB k.page = true := thereB_iff.2 hp
  have hkind : u.p.kind k.page = 0 := by unfold Ps.kind; rw [if_pos ht, if_neg (by omega), hq]
  have e1 : u.p.writeE k.page k.data = 0 := by
    unfold Ps.writeE
    rw [if_neg (by rw [ht]; decide), if_neg (by omega), hkind, if_neg (by decide), if_neg (by decide), if_neg hr]
  constructor
  · unfold Us.ans
    rw [if_neg (by rw [up]; decide), if_neg (by omega), if_neg (by rw [ep, he]; omega), if_neg (by omega)]
    show u.pageE k = 0
    unfold Us.pageE
    rw [if_pos hk, e1]
  · unfold Us.done
    rw [if_neg (by rw [up, ep, he]; simp; omega), if_neg (by omega)]
    have e2 : u.pageP k = u.p.add ⟨k.page, 1, k.data⟩ := by
      unfold Us.pageP
      rw [if_pos hk]
      unfold Ps.write
      rw [e1, if_pos rfl]
    rw [e2]
def orL : List (List Int) := [[0, 1], [2, 3]]
theorem orL_good : goodB 0 orL = true := by decide +kernel
def unitO (x : Int) (j : Nat) : Int := if x % 2 = 0 then j else j + 2
theorem orL_of {x : Int} (h : 0 ≤ x ∧ x < 16384) : ofP 0 orL x = x / 2 ∧ chainR 0 orL x = (if x % 2 = 0 then [0, 1] else [2, 3]) := by
  have ho : ofB 0 orL x = true := ofB_iff.2 ⟨orL_good, h⟩
  constructor
  · unfold ofP
    rw [if_pos ho]
    rfl
  · unfold chainR
    rw [if_pos ho]
    show orL.getD (x % 2).toNat [] = _
    have h2 : x % 2 = 0 ∨ x % 2 = 1 := by omega
    rcases h2 with h2 | h2
    · rw [h2]; rfl
    · rw [h2]; rfl
theorem orL_len {x : Int} (h : 0 ≤ x ∧ x < 16384) : (chainR 0 orL x).length = 2 := by
  rw [(orL_of h).2]
  split <;> rfl
theorem orL_unit {x : Int} (h : 0 ≤ x ∧ x < 16384) {j : Nat} (hj : j < 2) : (chainR 0 orL x).getD j 0 = unitO x j ∧ 0 ≤ unitO x j ∧ unitO x j ≤ 3 := by
  rw [(orL_of h).2]
  unfold unitO
  have : j = 0 ∨ j = 1 := by omega
  split
  · rcases this with rfl | rfl <;> decide
  · rcases this with rfl | rfl <;> decide
theorem unitO_inj {x y : Int} {j k : Nat} (hj : j < 2) (hk : k < 2) (e : (unitO x j).toNat = (unitO y k).toNat) : x % 2 = y % 2 ∧ j = k := by
  unfold unitO at e
  split at e <;> split at e <;> omega
/-- one of them is another then -/
def putA (A : Nat → Ap) (i : Nat) (a : Ap) : Nat → Ap := fun j => if j = i then a else A j
theorem putA_at (A : Nat → Ap) (i : Nat) (a : Ap) : putA A i a i = a := if_pos rfl
theorem putA_off (A : Nat → Ap) {i j : Nat} (a : Ap) (h : j ≠ i) : putA A i a j = A j := if_neg h
/-- how many of the first m have an address -/
def told (A : Nat → Ap) : Nat → Nat
  | 0 => 0
  | m + 1 => told A m + if (A m).at_ = 2 then 0 else 1
theorem told_le (A : Nat → Ap) (m : Nat) : told A m ≤ m := by
  induction m with
  | zero => exact Nat.le_refl _
  | succ m ih => unfold told; split <;> omega
theorem told_off (A : Nat → Ap) {i m : Nat} (a : Ap) (h : m ≤ i) : told (putA A i a) m = told A m := by
  induction m with
  | zero => rfl
  | succ m ih => unfold told; rw [ih (by omega), putA_off A a (by omega)]
theorem told_put (A : Nat → Ap) {i m : Nat} (a : Ap) (hi : i < m) (h1 : (A i).at_ = 2) (h2 : a.at_ ≠ 2) : told (putA A i a) m = told A m + 1 := by
  induction m with
  | zero => omega
  | succ m ih =>
    unfold told
    by_cases e : m = i
    · rw [e, told_off A a (Nat.le_refl _), putA_at, if_neg h2, if_pos h1]
    · rw [ih (by omega), putA_off A a e]
      omega
theorem told_same (A : Nat → Ap) {i m : Nat} (a : Ap) (h1 : (A i).at_ ≠ 2) (h2 : a.at_ ≠ 2) : told (putA A i a) m = told A m := by
  induction m with
  | zero => rfl
  | succ m ih =>
    unfold told
    by_cases e : m = i
    · rw [ih, e, putA_at, if_neg h2, if_neg h1]
    · rw [ih, putA_off A a e]
/-- a page with a text -/
def hasT (u : Us) (q : Int) (s : ByteArray) : Prop := ∃ x ∈ u.p.l, x.at_ = q ∧ x.s = s
/-- m appends over nodes, each of a text of its own -/
structure OrS (txt : Nat → ByteArray) (m : Nat) (n : Nd) (A : Nat → Ap) : Prop where
  u : ∀ i, i < 16 → (n.u i).down = false ∧ (n.u i).epoch = 0 ∧ (n.u i).p.room = 300 ∧ (n.u i).p.edge = 0 ∧ (n.u i).p.Ok
  each : ∀ i, i < 16 → ∀ x ∈ (n.u i).p.l, x.kind = 1 ∧ ∃ k j, k < m ∧ (A k).at_ ≠ 2 ∧ j < (A k).i ∧ (unitO (A k).addr j).toNat = i ∧ x.at_ = (A k).addr / 2
  oe : n.o.epoch = 0
  ok : n.o.knows = true
  ot : 0 ≤ n.o.tail ∧ n.o.tail = told A m
  used : n.l = newL 0 orL
  a : ∀ k, k < m → (A k).ep = 0 ∧ (A k).L = orL ∧ (A k).txt = txt k ∧ ((A k).at_ = 2 ∨ ((0 ≤ (A k).addr ∧ (A k).addr < n.o.tail) ∧ (((A k).at_ = 3 ∧ (A k).i < 2) ∨ ((A k).at_ = 6 ∧ (A k).e = 0 ∧ (A k).i = 2)) ∧ ∀ j, j < (A k).i → hasT (n.u (unitO (A k).addr j).toNat) ((A k).addr / 2) (txt k)))
  once : ∀ i k, i < m → k < m → i ≠ k → (A i).at_ ≠ 2 → (A k).at_ ≠ 2 → (A i).addr ≠ (A k).addr
def leftO (a : Ap) : Nat := if a.at_ = 6 then 0 else if a.at_ = 2 then 3 else 2 - a.i
section
variable {txt : Nat → ByteArray} {m : Nat} {n : Nd} {A : Nat → Ap}
theorem OrS.tail (h : OrS txt m n A) (hm : m ≤ 12) : n.o.tail ≤ 12 := by
  have h1 := h.ot.2
  have h2 := told_le A m
  omega
theorem OrS.i2 (h : OrS txt m n A) {k : Nat} (hk : k < m) (h2 : (A k).at_ ≠ 2) : (A k).i ≤ 2 ∧ 0 ≤ (A k).addr ∧ (A k).addr < n.o.tail := by
  rcases (h.a k hk).2.2.2 with h3 | ⟨h3, h4 | h4, _⟩
  · exact absurd h3 h2
  · exact ⟨by omega, h3⟩
  · exact ⟨by omega, h3⟩
theorem OrS.len (h : OrS txt m n A) (hm : m ≤ 12) {i : Nat} (hi : i < 16) : (n.u i).p.l.length ≤ 20 := by
  have h1 := nodup_short 20 ((n.u i).p.l.map (·.at_)) (h.u i hi).2.2.2.2.once (fun x hx => by
    obtain ⟨y, hy, rfl⟩ := List.mem_map.1 hx
    obtain ⟨_, k, j, k1, k2, k3, k4, k5⟩ := h.each i hi y hy
    have h2 := h.i2 k1 k2
    have h3 := h.tail hm
    omega)
  rwa [List.length_map] at h1
theorem OrS.start (txt : Nat → ByteArray) (hs : ∀ k, k < m → (txt k).size ≤ 4096) : OrS txt m (newN 0 orL 300) (fun k => newAp 0 orL (txt k)) := by
  have e : ∀ k, k < m → newAp 0 orL (txt k) = ⟨0, orL, txt k, 2, 0, 0, 0, false, 0⟩ := fun k hk => by
    have := hs k hk
    unfold newAp
    rw [if_neg (by rw [orL_good]; decide), if_neg (by omega)]
  have ht : ∀ j, j ≤ m → told (fun k => newAp 0 orL (txt k)) j = 0 := by
    intro j
    induction j with
    | zero => intro _; rfl
    | succ j ih => intro hj; unfold told; rw [ih (by omega), e j (by omega)]; rfl
  refine ⟨fun i _ => ⟨rfl, rfl, rfl, rfl, newP_ok (by decide)⟩, fun i _ x hx => (by cases hx), rfl, rfl, ⟨by decide, by rw [ht m (Nat.le_refl _)]; rfl⟩, rfl, fun k hk => ?_, fun i k hi hk _ h2 => ?_⟩
  · show (newAp 0 orL (txt k)).ep = 0 ∧ _
    rw [e k hk]
    exact ⟨rfl, rfl, rfl, .inl rfl⟩
  · exact absurd (show (newAp 0 orL (txt i)).at_ = 2 by rw [e i hi]) h2
/-- one question more, heard -/
theorem OrS.turn (h : OrS txt m n A) (hm : m ≤ 12) {i : Nat} (hi : i < m) (hs : (txt i).size ≤ 4096) (h6 : (A i).at_ ≠ 6) :
    OrS txt m (n.done (A i).ask) (putA A i ((A i).hear (n.ans (A i).ask) true)) ∧ leftO ((A i).hear (n.ans (A i).ask) true) + 1 ≤ leftO (A i) := by
  obtain ⟨a1, a2, a3, a4⟩ := h.a i hi
  have hot := h.ot
  have htl := h.tail hm
  rcases a4 with h2 | ⟨hx, h3, hj⟩
  · have hk : (A i).ask = nextK 0 := by unfold Ap.ask; rw [if_neg (by omega), if_pos h2, a1]
    rw [hk]
    have e1 : n.ans (nextK 0) = anP 0 n.o.tail noT n.o.epoch := by
      rw [(next_ans n (k := nextK 0) rfl).1]
      unfold Od.ans
      rw [if_neg (by decide), if_pos (.inl rfl), if_neg (by rw [h.oe]; decide), if_neg (by rw [h.ok]; decide), if_neg (by decide), if_neg (by omega)]
    have e2 : n.done (nextK 0) = n.putO ⟨n.o.epoch, n.o.tail + 1, n.o.knows⟩ := by
      rw [(next_ans n (k := nextK 0) rfl).2]
      unfold Od.done
      rw [if_neg (fun h => absurd h.1 (by decide)), if_pos ⟨rfl, by rw [h.oe]; rfl, h.ok, by omega⟩]
    rw [e1, e2, hear_token h2 rfl (show 0 ≤ n.o.tail ∧ n.o.tail < 16384 by omega)]
    generalize hb : ({ (A i).maybeB (anP 0 n.o.tail noT n.o.epoch) with addr := (anP 0 n.o.tail noT n.o.epoch).n, i := 0, at_ := 3 } : Ap) = b
    have b1 : b.ep = 0 ∧ b.L = orL ∧ b.txt = txt i ∧ b.at_ = 3 ∧ b.addr = n.o.tail ∧ b.i = 0 := by rw [← hb]; exact ⟨a1, a2, a3, rfl, rfl, rfl⟩
    clear hb
    obtain ⟨b1, b2, b3, b4, b5, b6⟩ := b1
    constructor
    · refine ⟨h.u, fun u hu x hx => ?_, h.oe, h.ok, ⟨by show 0 ≤ n.o.tail + 1; omega, ?_⟩, h.used, fun k hk => ?_, fun k l hk hl hkl h2k h2l => ?_⟩
      · obtain ⟨c1, k, j, c2, c3, c4, c5, c6⟩ := h.each u hu x hx
        have hki : k ≠ i := fun e => c3 (e ▸ h2)
        exact ⟨c1, k, j, c2, by rw [putA_off A b hki]; exact c3, by rw [putA_off A b hki]; exact c4, by rw [putA_off A b hki]; exact c5, by rw [putA_off A b hki]; exact c6⟩
      · show n.o.tail + 1 = _
        rw [told_put A b hi h2 (by omega), hot.2]
        omega
      · by_cases hki : k = i
        · rw [hki, putA_at]
          exact ⟨b1, b2, b3, .inr ⟨by show 0 ≤ b.addr ∧ b.addr < n.o.tail + 1; omega, .inl ⟨b4, by omega⟩, fun j hj => by omega⟩⟩
        · rw [putA_off A b hki]
          obtain ⟨c1, c2, c3, c4⟩ := h.a k hk
          refine ⟨c1, c2, c3, ?_⟩
          rcases c4 with c4 | ⟨c4, c5, c6⟩
          · exact .inl c4
          · exact .inr ⟨by show 0 ≤ _ ∧ _ < n.o.tail + 1; omega, c5, c6⟩
      · by_cases hki : k = i
        · have hli : l ≠ i := fun e => hkl (hki.trans e.symm)
          rw [putA_off A b hli] at h2l ⊢
          rw [hki, putA_at]
          have := (h.i2 hl h2l).2
          omega
        · rw [putA_off A b hki] at h2k ⊢
          by_cases hli : l = i
          · rw [hli, putA_at]
            have := (h.i2 hk h2k).2
            omega
          · rw [putA_off A b hli] at h2l ⊢
            exact h.once k l hk hl hkl h2k h2l
    · unfold leftO
      rw [if_neg h6, if_pos h2, if_neg (by omega), if_neg (by omega), b6]
      omega
  · rcases h3 with ⟨h3, hi2⟩ | ⟨h3, _⟩
    · have hu := orL_unit (x := (A i).addr) (by omega) hi2
      have hp := (orL_of (x := (A i).addr) (by omega)).1
      have hk : (A i).ask = (A i).unitK 1 (A i).txt := by unfold Ap.ask; rw [if_neg (by omega), if_neg (by omega), if_pos h3]
      have ku : ((A i).unitK 1 (A i).txt).unit = unitO (A i).addr (A i).i := by show (chainR (A i).ep (A i).L (A i).addr).getD (A i).i 0 = _; rw [a1, a2, hu.1]
      have kp : ((A i).unitK 1 (A i).txt).page = (A i).addr / 2 := by show ofP (A i).ep (A i).L (A i).addr = _; rw [a1, a2, hp]
      have kd : ((A i).unitK 1 (A i).txt).data = txt i := a3
      have ke : ((A i).unitK 1 (A i).txt).epoch = 0 := a1
      have kk : ((A i).unitK 1 (A i).txt).kind = 1 := rfl
      rw [hk]
      generalize (A i).unitK 1 (A i).txt = q at ku kp kd ke kk ⊢
      have hui : q.unit.toNat < 16 := by omega
      obtain ⟨u1, u2, u3, u4, u5⟩ := h.u q.unit.toNat hui
      have hnone : findP (n.u q.unit.toNat).p.l q.page = none := findP_none.2 (fun x hx e => by
        obtain ⟨_, k, j, c2, c3, c4, c5, c6⟩ := h.each _ hui x hx
        have d1 := h.i2 c2 c3
        rw [ku] at c5
        have d2 := unitO_inj (by omega) hi2 c5
        have d3 : (A k).addr = (A i).addr := by omega
        by_cases hki : k = i
        · rw [hki] at c4; omega
        · exact h.once k i c2 hi hki c3 (by omega) d3)
      have hroom : ¬ (n.u q.unit.toNat).p.room ≤ (n.u q.unit.toNat).p.l.length := by
        have := h.len hm hui
        rw [u3]
        omega
      obtain ⟨w1, w2⟩ := us_write u1 u2 u4 kk ke (by rw [kd]; exact hs) (by omega) hnone hroom
      obtain ⟨p1, p2⟩ := page_ans n (.inl kk) (by omega)
      have hok := Us.ok u5 q
      rw [w2] at hok
      rw [p1, p2, w2, hear_wrote h3 w1]
      generalize hb : ((A i).maybeB ((n.u q.unit.toNat).ans q)).wrote = b
      have hb2 : b.ep = 0 ∧ b.L = orL ∧ b.txt = txt i ∧ b.addr = (A i).addr ∧ b.i = (A i).i + 1 ∧ ((b.at_ = 3 ∧ b.i < 2) ∨ (b.at_ = 6 ∧ b.e = 0 ∧ b.i = 2)) := by
        rw [← hb]
        unfold Ap.wrote
        rw [show (chainR ((A i).maybeB ((n.u q.unit.toNat).ans q)).ep ((A i).maybeB ((n.u q.unit.toNat).ans q)).L ((A i).maybeB ((n.u q.unit.toNat).ans q)).addr).length = 2 from by
          show (chainR (A i).ep (A i).L (A i).addr).length = 2
          rw [a1, a2]; exact orL_len (by omega)]
        by_cases e : (A i).i + 1 = 2
        · rw [if_pos (show ((A i).maybeB ((n.u q.unit.toNat).ans q)).i + 1 = 2 from e)]; exact ⟨a1, a2, a3, rfl, rfl, .inr ⟨rfl, rfl, e⟩⟩
        · rw [if_neg (show ¬ ((A i).maybeB ((n.u q.unit.toNat).ans q)).i + 1 = 2 from e)]; exact ⟨a1, a2, a3, rfl, rfl, .inl ⟨rfl, by show (A i).i + 1 < 2; omega⟩⟩
      clear hb
      obtain ⟨b1, b2, b3, b5, b6, b4⟩ := hb2
      have b2n : b.at_ ≠ 2 := by omega
      have hn : (A i).at_ ≠ 2 := by omega
      have hasN : ∀ (v : Nat) (p : Int) (s : ByteArray), hasT (n.u v) p s → hasT ((n.putU q.unit.toNat ⟨(n.u q.unit.toNat).p.add ⟨q.page, 1, q.data⟩, (n.u q.unit.toNat).epoch, (n.u q.unit.toNat).down⟩).u v) p s := by
        intro v p s hv
        by_cases e : v = q.unit.toNat
        · rw [e] at hv ⊢
          rw [putU_at]
          obtain ⟨x, hx, hx2⟩ := hv
          exact ⟨x, List.mem_append_left _ hx, hx2⟩
        · rw [putU_off _ _ e]; exact hv
      constructor
      · refine ⟨fun u hu => ?_, fun u hu x hx => ?_, h.oe, h.ok, ⟨hot.1, ?_⟩, h.used, fun k hk => ?_, fun k l hk hl hkl h2k h2l => ?_⟩
        · by_cases e : u = q.unit.toNat
          · rw [e, putU_at]; exact ⟨u1, u2, u3, u4, hok⟩
          · rw [putU_off _ _ e]; exact h.u u hu
        · have old : ∀ y ∈ (n.u u).p.l, y.kind = 1 ∧ ∃ k j, k < m ∧ (putA A i b k).at_ ≠ 2 ∧ j < (putA A i b k).i ∧ (unitO (putA A i b k).addr j).toNat = u ∧ y.at_ = (putA A i b k).addr / 2 := by
            intro y hy
            obtain ⟨c1, k, j, c2, c3, c4, c5, c6⟩ := h.each u hu y hy
            refine ⟨c1, k, j, c2, ?_⟩
            by_cases hki : k = i
            · rw [hki] at c4 c5 c6 ⊢
              rw [putA_at, b5]
              exact ⟨b2n, by omega, c5, c6⟩
            · rw [putA_off A b hki]; exact ⟨c3, c4, c5, c6⟩
          by_cases e : u = q.unit.toNat
          · rw [e, putU_at] at hx
            rcases List.mem_append.1 (show x ∈ (n.u q.unit.toNat).p.l ++ [⟨q.page, 1, q.data⟩] from hx) with hx | hx
            · exact old x (by rw [e]; exact hx)
            · rw [List.mem_singleton.1 hx]
              refine ⟨rfl, i, (A i).i, hi, ?_⟩
              rw [putA_at, b5]
              exact ⟨b2n, by omega, by rw [e, ku], kp⟩
          · rw [putU_off _ _ e] at hx
            exact old x hx
        · rw [told_same A b hn b2n]; exact hot.2
        · by_cases hki : k = i
          · rw [hki, putA_at, b5]
            refine ⟨b1, b2, b3, .inr ⟨hx, b4, fun j hj2 => ?_⟩⟩
            by_cases e : j = (A i).i
            · rw [e, ← ku, putU_at]
              exact ⟨⟨q.page, 1, q.data⟩, List.mem_append_right _ (List.mem_singleton.2 rfl), kp, kd⟩
            · exact hasN _ _ _ (hj j (by omega))
          · rw [putA_off A b hki]
            obtain ⟨c1, c2, c3, c4⟩ := h.a k hk
            refine ⟨c1, c2, c3, ?_⟩
            rcases c4 with c4 | ⟨c4, c5, c6⟩
            · exact .inl c4
            · exact .inr ⟨c4, c5, fun j hj2 => hasN _ _ _ (c6 j hj2)⟩
        · by_cases hki : k = i
          · have hli : l ≠ i := fun e => hkl (hki.trans e.symm)
            rw [putA_off A b hli] at h2l ⊢
            rw [hki, putA_at, b5]
            exact h.once i l hi hl (fun e => hli e.symm) hn h2l
          · rw [putA_off A b hki] at h2k ⊢
            by_cases hli : l = i
            · rw [hli, putA_at, b5]
              exact h.once k i hk hi hki h2k hn
            · rw [putA_off A b hli] at h2l ⊢
              exact h.once k l hk hl hkl h2k h2l
      · unfold leftO
        rw [if_neg h6, if_neg hn]
        split
        · omega
        · rw [b6]; omega
    · exact absurd h3 h6
/-- one that is over: its address, and its record there -/
theorem OrS.ends (h : OrS txt m n A) (hm : m ≤ 12) {i : Nat} (hi : i < m) (h6 : (A i).at_ = 6) : (0 ≤ (A i).addr ∧ (A i).addr < 64) ∧ (A i).e = 0 ∧ ∀ j, j < 2 → (n.u (unitO (A i).addr j).toNat).p.readE ((A i).addr / 2) = 0 ∧ (n.u (unitO (A i).addr j).toNat).p.readS ((A i).addr / 2) = txt i := by
  have htl := h.tail hm
  rcases (h.a i hi).2.2.2 with h2 | ⟨hx, h3, hj⟩
  · omega
  rcases h3 with ⟨h3, _⟩ | ⟨_, he, h2⟩
  · omega
  refine ⟨by omega, he, fun j hj2 => ?_⟩
  have hu := orL_unit (x := (A i).addr) (by omega) hj2
  obtain ⟨u1, u2, u3, u4, u5⟩ := h.u (unitO (A i).addr j).toNat (by omega)
  obtain ⟨x, x1, x2, x3⟩ := hj j (by omega)
  obtain ⟨x4, _⟩ := h.each (unitO (A i).addr j).toNat (by omega) x x1
  cases hf : findP (n.u (unitO (A i).addr j).toNat).p.l ((A i).addr / 2) with
  | none => exact absurd x2 (findP_none.1 hf x x1)
  | some y =>
    have hy := findP_some hf
    have hxy : y = x := by
      have hn := u5.once
      obtain ⟨a, ha, rfl⟩ := List.getElem_of_mem x1
      obtain ⟨b, hb, rfl⟩ := List.getElem_of_mem hy.1
      have : a = b := by
        have ha2 : a < ((n.u (unitO (A i).addr j).toNat).p.l.map (·.at_)).length := by rw [List.length_map]; exact ha
        have hb2 : b < ((n.u (unitO (A i).addr j).toNat).p.l.map (·.at_)).length := by rw [List.length_map]; exact hb
        have h5 := List.getElem_inj (h₀ := ha2) (h₁ := hb2) hn
        rw [List.getElem_map, List.getElem_map] at h5
        exact h5.1 (x2.trans hy.2.symm)
      subst this
      rfl
    rw [hxy] at hf
    have ht : thereB ((A i).addr / 2) = true := thereB_iff.2 (by omega)
    have hk1 : (n.u (unitO (A i).addr j).toNat).p.kind ((A i).addr / 2) = 1 := by
      unfold Ps.kind
      rw [if_pos ht, if_neg (by omega), hf]
      exact x4
    have e1 : (n.u (unitO (A i).addr j).toNat).p.readE ((A i).addr / 2) = 0 := by
      unfold Ps.readE
      rw [if_neg (by rw [ht]; decide), hk1, if_neg (by decide), if_neg (by decide), if_neg (by decide)]
    refine ⟨e1, ?_⟩
    unfold Ps.readS Ps.text
    rw [if_pos e1, hf]
    exact x3
end
end Go.Proofs.YtimjlfkdbkafeaaGreat
namespace Go.Proofs.YtimjlfkdbkafeaaGreat
open Go.RowKit
set_option maxRecDepth 20000
theorem got_ret {fn : Func} {p : Tmp} (h : fn.results = #[.cell p 51]) {a : Act} {w : World} {g : Nat} {x y z : Value} {R : Ending → World → Prop}
    (hg : w.heap[g]? = some (.cells #[x, y, z] 51 (0, 0))) (hp : a.tmps.getD p undef = .pointer (some ⟨g, 0, none⟩)) (hd : a.defers = [])
    (hR : R (.returned (.agg #[x, y, z])) w) : bodyPost Tryz.prog fn R .ret a w :=
  bodyPost_ret (results_cell_row h a.tmps w g 51 #[x, y, z] (0, 0) _ hp hg Tryz.underlying51 rfl (by kernel_rfl)) hd hR
/-- what is told of an address -/
def gotV (ep : Int) (L : List (List Int)) (a : Int) : Value := .agg #[.int .i64 (ofC ep L a), .int .i64 (ofP ep L a), .bool (ofB ep L a)]
theorem gotV_no {ep : Int} {L : List (List Int)} {a : Int} (h : ofB ep L a = false) : gotV ep L a = .agg #[.int .i64 0, .int .i64 0, .bool false] := by
  unfold gotV ofC ofP
  rw [h]
  rfl
theorem gotV_yes {ep : Int} {L : List (List Int)} {a : Int} (h : ofB ep L a = true) : gotV ep L a = .agg #[.int .i64 (a % (L.length : Int)), .int .i64 (a / (L.length : Int)), .bool true] := by
  unfold gotV ofC ofP
  rw [h]
  rfl
set_option maxHeartbeats 2000000 in
theorem refOf_any (ep : Int) (ao : Option Addr) (cap : Nat) (L : List (List Int)) (a : Int) (w : World) (h : CL w ao L) (hl : L.length ≤ 255 ∧ ∀ c ∈ L, c.length ≤ 255) :
    Calls Tryz.prog 16 #[.agg #[.int .i64 ep, .slice ao L.length cap], .int .i64 a] w fun e w' => e = .returned (gotV ep L a) ∧ Below w.heap.size w w' := by
  have HB0 := Lib.hid (((Below.refl w.heap.size w).alloc (Nat.le_refl _) (.cells #[.int .i64 ep, .slice ao L.length cap] 27)).alloc (by simp) (.cells #[.int .i64 0, .int .i64 0, .bool false] 51))
  have HC := Lib.hid (h.below HB0.out)
  have HP := Lib.hid (show PB (((w.alloc (.cells #[.int .i64 ep, .slice ao L.length cap] 27)).alloc (.cells #[.int .i64 0, .int .i64 0, .bool false] 51))) w.heap.size ep ao L.length cap from PB.below (heap_alloc_new _ _) ((Below.refl _ _).alloc (Nat.le_refl _) _))
  have HG := Lib.hid (show (((w.alloc (.cells #[.int .i64 ep, .slice ao L.length cap] 27)).alloc (.cells #[.int .i64 0, .int .i64 0, .bool false] 51))).heap[w.heap.size + 1]? = some (.cells #[.int .i64 0, .int .i64 0, .bool false] 51 (0, 0)) from by
    have h := heap_alloc_new (w.alloc (.cells #[.int .i64 ep, .slice ao L.length cap] 27)) (.cells #[.int .i64 0, .int .i64 0, .bool false] 51)
    simpa using h)
  have CG := Lib.hid (rgood_any ep ao cap L _ HC.out hl)
  have hl' : (L.length : Int) ≤ 255 := by have := hl.1; omega
  clear h hl
  by_cases hg : goodB ep L = true
  · rw [hg] at CG
    obtain ⟨n1, n4⟩ := good_len hg
    by_cases h0 : a < 0
    · rw [gotV_no (Bool.eq_false_iff.2 (fun e => by have := (ofB_iff.1 e).2; omega))]
      clear hg
      go_enter Tryz.func16, Tryz.ntmps16
      go_wp2_with (go_at_call 27; refine CG.out.mono ?_; rintro e w1 ⟨rfl, hb1⟩; have HB1 := Lib.hid (HB0.out.trans (hb1.mono HB0.out.size)); have HG1 := Lib.hid (below_heap hb1 HG.out); obtain ⟨c0, c1, c2, f0, f1, f2⟩ := three_cells HG1.out; clear hb1)
      exact got_ret rfl (by first | exact HG1.out | exact three_set2 (three_set1 (three_set0 HG1.out _) _) _) rfl rfl ⟨rfl, by first | exact HB1.out | exact ((HB1.out.setCell (by simp) _).setCell (by simp) _).setCell (by simp) _⟩
    · by_cases h1 : 16384 ≤ a
      · rw [gotV_no (Bool.eq_false_iff.2 (fun e => by have := (ofB_iff.1 e).2; omega))]
        have h0' : 0 ≤ a := by omega
        clear hg h0
        go_enter Tryz.func16, Tryz.ntmps16
        go_wp2_with (go_at_call 27; refine CG.out.mono ?_; rintro e w1 ⟨rfl, hb1⟩; have HB1 := Lib.hid (HB0.out.trans (hb1.mono HB0.out.size)); have HG1 := Lib.hid (below_heap hb1 HG.out); obtain ⟨c0, c1, c2, f0, f1, f2⟩ := three_cells HG1.out; clear hb1)
        exact got_ret rfl (by first | exact HG1.out | exact three_set2 (three_set1 (three_set0 HG1.out _) _) _) rfl rfl ⟨rfl, by first | exact HB1.out | exact ((HB1.out.setCell (by simp) _).setCell (by simp) _).setCell (by simp) _⟩
      · have h0' : 0 ≤ a := by omega
        have h1' : a < 16384 := by omega
        rw [gotV_yes (ofB_iff.2 ⟨hg, h0', h1'⟩)]
        obtain ⟨r1, r2, _⟩ := of_range (n := L.length) ⟨by omega, by omega⟩ ⟨h0', h1'⟩
        have e1 : IntKind.i64.wrap (a.tmod (L.length : Int)) = a % (L.length : Int) := by rw [Int.tmod_eq_emod_of_nonneg h0']; exact IntWalk.i64_in _ (by omega)
        have e2 : IntKind.i64.wrap (a.tdiv (L.length : Int)) = a / (L.length : Int) := by rw [Int.tdiv_eq_ediv_of_nonneg h0']; exact IntWalk.i64_in _ (by omega)
        have nz : ¬ (L.length : Int) = 0 := by omega
        clear hg h0 h1 r1 r2
        go_enter Tryz.func16, Tryz.ntmps16
        go_wp2_with (go_at_call 27; refine CG.out.mono ?_; rintro e w1 ⟨rfl, hb1⟩; have HB1 := Lib.hid (HB0.out.trans (hb1.mono HB0.out.size)); have HG1 := Lib.hid (below_heap hb1 HG.out); obtain ⟨c0, c1, c2, f0, f1, f2⟩ := three_cells HG1.out; obtain ⟨b0, b1⟩ := (HP.out.below hb1).cells; clear hb1)
        go_region
        go_wp2_with fail
        exact got_ret rfl (three_set2 (three_set1 (three_set0 HG1.out _) _) _) rfl rfl ⟨rfl, (((HB1.out.setCell (by simp) _).setCell (by simp) _).setCell (by simp) _).drew⟩
  · have hg' : goodB ep L = false := Bool.eq_false_iff.2 hg
    rw [gotV_no (Bool.eq_false_iff.2 (fun e => hg (ofB_iff.1 e).1))]
    rw [hg'] at CG
    clear hg hg'
    go_enter Tryz.func16, Tryz.ntmps16
    go_wp2_with (go_at_call 27; refine CG.out.mono ?_; rintro e w1 ⟨rfl, hb1⟩; have HB1 := Lib.hid (HB0.out.trans (hb1.mono HB0.out.size)); have HG1 := Lib.hid (below_heap hb1 HG.out); obtain ⟨c0, c1, c2, f0, f1, f2⟩ := three_cells HG1.out; clear hb1)
    exact got_ret rfl (by first | exact HG1.out | exact three_set2 (three_set1 (three_set0 HG1.out _) _) _) rfl rfl ⟨rfl, by first | exact HB1.out | exact ((HB1.out.setCell (by simp) _).setCell (by simp) _).setCell (by simp) _⟩
end Go.Proofs.YtimjlfkdbkafeaaGreat
