/- What the program's own put, Write, Fill and Read make of pages, and return. Conditions: the object lies where the call was told; its pages are as the calls make them. The document's own layout in memory, and what its New makes. No conditions but those that the statements name. Plain facts on projections: units that were met so far, chain by chain. No conditions. -/
import Derived.Test.YtchhmfdalghgcaaGreatG11b
import Derived.Deep.RegionWith
import Derived.Test.YtchhmfdalghgcaaGreatG07b
import Derived.Test.YtchhmfdalghgcaaGreatG03a
import Derived.Test.YtchhmfdalghgcaaGreatG11a
import Derived.Test.YtchhmfdalghgcaaGreatG10b
import Derived.Deep.RegionHeld3
import Derived.Deep.RegionHeldLaw
set_option linter.unusedVariables false
namespace Go.Proofs.YtchhmfdalghgcaaGreat
open Go.RowKit Go.Maps
set_option linter.unusedVariables false
set_option maxRecDepth 20000
theorem left_same {G : Nat → Prop} {w : World} {b : Nat} {p : Ps} (h : PGm G w b p) : Left PGm G w w b p := ⟨G, h, Kept.refl _ w, fun k hk => .inl hk⟩
theorem left_drawn {G : Nat → Prop} {w w' : World} {b : Nat} {p : Ps} (h : PGm G w b p) (hb : Below w.heap.size w w') : Left PGm G w w' b p := ⟨G, h.below hb, Kept.ofBelow hb _, fun k hk => .inl hk⟩
/-- a page is laid into the map -/
theorem put_ready {G : Nat → Prop} {w w1 : World} {b mb : Nat} {p : Ps} {x : Pg} (h1 : w.heap[b]? = some (.cells #[.int .i64 p.room, .int .i64 p.edge, .map (some mb)] 149 (0, 0))) (h2 : Tp w mb p.l) (h3 : mb ≠ b) (h4 : G b) (h5 : G mb) (h6 : ∀ k, G k → k < w.heap.size)
    (hb : Below w.heap.size w w1) (hx : (Lit.int .i64 x.at_).wf = true) (hn : x.at_ ∉ p.l.map (·.at_)) (hl : p.l.length ≤ 100000) :
    ∃ w2, (Instr.mapUpdate 147 (.map (some mb)) (.agg #[.int .i64 x.at_]) (.agg #[.int .i64 x.kind, .string x.s])).run Tryz.prog w1 = .ok () w2 ∧ Left PGm G w w2 b (p.add x) := by
  obtain ⟨w2, hr, hT, hg⟩ := (h2.below hb).put hx hn hl
  have hbl : b < w1.heap.size := Nat.lt_of_lt_of_le (h6 b h4) hb.size
  refine ⟨w2, hr, G, ⟨mb, (hg.block b hbl (fun e => h3 (Option.some.inj e).symm)).trans (below_heap hb h1), hT, h3, h4, h5, fun k hk => Nat.lt_of_lt_of_le (h6 k hk) (Nat.le_trans hb.size hg.size)⟩, (Kept.ofBelow hb _).grown hg (fun k e => by cases e; exact fun hn => hn h5), fun k hk => .inl hk⟩
set_option maxHeartbeats 8000000 in
theorem put_any (G : Nat → Prop) (w : World) (b : Nat) (p : Ps) (a kd : Int) (s : ByteArray) (h : PGm G w b p) (ht : thereB a = true) (hn : a ∉ p.l.map (·.at_)) (hs : s.size ≤ 1000000) (hl : p.l.length ≤ 100000) :
    Calls Tryz.prog 138 #[.pointer (some ⟨b, 0, none⟩), .int .i64 a, .int .i64 kd, .string s] w fun e w' => e = .returned (.int .i64 (if p.room ≤ p.l.length then 44 else 0)) ∧ Left PGm G w w' b (if p.room ≤ p.l.length then p else p.add ⟨a, kd, s⟩) := by
  have HP := Lib.hid h
  obtain ⟨mb, h1, h2, h3, h4, h5, h6⟩ := h
  obtain ⟨c0, c1, c2, _⟩ := three_cells h1
  have hc := fun (n : Nat) (ty : TypeId) => h2.count ty (w.drewN n) rfl
  by_cases hr : p.room ≤ p.l.length
  · have HL := Lib.hid (fun n => left_drawn HP.out (below_drewN (Below.refl w.heap.size w) n))
    rw [if_pos hr, if_pos hr]
    have hd : decide (p.room ≤ (p.l.length : Int)) = true := decide_eq_true hr
    clear h1 h2 h3 h4 h5 h6 hn ht hr HP
    go_enter Tryz.func138, Tryz.ntmps138
    go_wp2_with fail
    go_quiet (fail)
    go_wp2_with fail
    go_ret
    exact ⟨rfl, HL.out _⟩
  · have hd : decide (p.room ≤ (p.l.length : Int)) = false := decide_eq_false hr
    have HR := Lib.hid (fun w1 hb => @put_ready G w w1 b mb p ⟨a, kd, s⟩ h1 h2 h3 h4 h5 h6 hb (there_wf ht) hn hl)
    rw [if_neg hr, if_neg hr]
    have HC := Lib.hid (fun w1 (hb : Below w.heap.size w w1) => (three_cells (below_heap hb h1)).2.2.1)
    have HB := Lib.hid (fun n => below_drewN (Below.refl w.heap.size w) n)
    have HS := Lib.hid (show s.size ≤ 1099511627776 by omega)
    clear h1 h2 h3 h4 h5 h6 hn ht hr HP
    generalize p.add ⟨a, kd, s⟩ = p2 at *
    go_enter Tryz.func138, Tryz.ntmps138
    go_wp2_with fail
    go_quiet (fail)
    go_wp2_with fail
    have HBQ := Lib.hid ((HB.out nq).drew)
    have e2 := HC.out _ (HB.out nq)
    clear c0 c1 c2 hc hd
    generalize w.drewN nq = wq at *
    go_region_with (go_at_call 60; refine (clone_any s _ HS.out).mono ?_; rintro e w1 ⟨rfl, hb1⟩; have hb2 := HBQ.out.trans (hb1.mono HBQ.out.size); have d2 := HC.out _ hb2; obtain ⟨w2, hup, hlf⟩ := HR.out _ hb2; have HLF := Lib.hid hlf; clear hb1 hb2 hlf)
    all_goals
      go_wp2_with fail
      go_ret
      exact ⟨rfl, HLF.out⟩
end Go.Proofs.YtchhmfdalghgcaaGreat
namespace Go.Proofs.YtchhmfdalghgcaaGreat
set_option linter.unusedVariables false
open Go.RowKit
set_option maxRecDepth 20000
theorem below_new (w : World) (x : Obj) : Below w.heap.size w (w.alloc x) := (Below.refl _ _).alloc (Nat.le_refl _) x
def ptrL (b : Nat) : Value := .pointer (some ⟨b, 0, none⟩)
/-- v is a slice of slices of numbers, the chains L, all of it in blocks of G -/
def CG (G : Nat → Prop) (w : World) (v : Value) (L : List (List Int)) : Prop := ∃ ao cap, v = .slice ao L.length cap ∧ (ao = none → cap = 0) ∧ L.length ≤ cap ∧ (∀ a, ao = some a → G a.block ∧ a.block < w.heap.size) ∧
  ∀ i (h : i < L.length), ∃ bk off ai ci, ao = some ⟨bk, off, none⟩ ∧ w.cell? ⟨bk, off + i, none⟩ = some (.slice ai L[i].length ci) ∧ NLI w ai ci L[i] ∧ ∀ a, ai = some a → G a.block ∧ a.block < w.heap.size
/-- v is a slice of the numbers l, in a block of G -/
def UG1 (G : Nat → Prop) (w : World) (v : Value) (l : List Int) : Prop := ∃ ao cap, v = .slice ao l.length cap ∧ NLI w ao cap l ∧ ∀ a, ao = some a → G a.block ∧ a.block < w.heap.size
theorem CG.keep {G S : Nat → Prop} {w w' : World} {v : Value} {L : List (List Int)} (h : CG G w v L) (hk : Kept S w w') (hS : ∀ k, G k → S k) : CG G w' v L := by
  obtain ⟨ao, cap, h1, h2, h3, h4, h5⟩ := h
  refine ⟨ao, cap, h1, h2, h3, fun a e => ⟨(h4 a e).1, Nat.lt_of_lt_of_le (h4 a e).2 hk.size⟩, fun i hi => ?_⟩
  obtain ⟨bk, off, ai, ci, r1, r2, r3, r4⟩ := h5 i hi
  exact ⟨bk, off, ai, ci, r1, cellK hk (hS _ (h4 _ r1).1) r2, r3.keep hk (fun a e => hS _ (r4 a e).1), fun a e => ⟨(r4 a e).1, Nat.lt_of_lt_of_le (r4 a e).2 hk.size⟩⟩
theorem UG1.keep {G S : Nat → Prop} {w w' : World} {v : Value} {l : List Int} (h : UG1 G w v l) (hk : Kept S w w') (hS : ∀ k, G k → S k) : UG1 G w' v l := by
  obtain ⟨ao, cap, h1, h2, h3⟩ := h
  exact ⟨ao, cap, h1, h2.keep hk (fun a e => hS _ (h3 a e).1), fun a e => ⟨(h3 a e).1, Nat.lt_of_lt_of_le (h3 a e).2 hk.size⟩⟩
theorem CG.mono {G S : Nat → Prop} {w : World} {v : Value} {L : List (List Int)} (h : CG G w v L) (hS : ∀ k, G k → S k) : CG S w v L := by
  obtain ⟨ao, cap, h1, h2, h3, h4, h5⟩ := h
  refine ⟨ao, cap, h1, h2, h3, fun a e => ⟨hS _ (h4 a e).1, (h4 a e).2⟩, fun i hi => ?_⟩
  obtain ⟨bk, off, ai, ci, r1, r2, r3, r4⟩ := h5 i hi
  exact ⟨bk, off, ai, ci, r1, r2, r3, fun a e => ⟨hS _ (r4 a e).1, (r4 a e).2⟩⟩
theorem UG1.mono {G S : Nat → Prop} {w : World} {v : Value} {l : List Int} (h : UG1 G w v l) (hS : ∀ k, G k → S k) : UG1 S w v l := by
  obtain ⟨ao, cap, h1, h2, h3⟩ := h
  exact ⟨ao, cap, h1, h2, fun a e => ⟨hS _ (h3 a e).1, (h3 a e).2⟩⟩
theorem CG.of {w : World} {B : Nat} {v : Value} {L : List (List Int)} (h : OC w B v L) : CG (fun k => B ≤ k ∧ k < w.heap.size) w v L := by
  obtain ⟨ao, cap, rfl, h2, h3, h4, h5⟩ := h.form
  refine ⟨ao, cap, rfl, h3, h4, fun a e => ⟨h5 a e, (h5 a e).2⟩, fun i hi => ?_⟩
  obtain ⟨xs, k1, k2⟩ := h
  obtain ⟨bk, off, ai, ci, r1, r2, r3⟩ := h2 i hi
  obtain ⟨aj, cj, q1, q2, q3⟩ := k2 i hi
  rcases k1.2 with ⟨e, h0⟩ | ⟨g, cap2, cur, e, hbg, hh, hnc, _, hcs, ht⟩
  · omega
  · cases e
    cases r1
    have h6 : (cur.toList.take (L.length * 1))[i]? = some (.slice aj L[i].length cj) := by rw [ht]; exact q1
    rw [List.getElem?_take, if_pos (by omega)] at h6
    have h7 : w.cell? ⟨bk, 0 + i, none⟩ = some (.slice aj L[i].length cj) := by
      rw [Nat.zero_add, ← (by simpa using h6 : cur[i]? = some (.slice aj L[i].length cj))]
      simp [World.cell?, hh]
    rw [h7] at r2
    have e2 := Option.some.inj r2
    have e3 := Value.slice.inj e2
    obtain ⟨rfl, _, rfl⟩ := e3
    exact ⟨bk, 0, aj, cj, rfl, h7, q2, fun a e => ⟨⟨(q3 a e).1, (q3 a e).2.1⟩, (q3 a e).2.1⟩⟩
theorem UG1.of {w : World} {B : Nat} {v : Value} {l : List Int} (h : OI w B v l) : UG1 (fun k => B ≤ k ∧ k < w.heap.size) w v l := by
  obtain ⟨ao, cap, h1, h2, h3, _⟩ := h.form
  exact ⟨ao, cap, h1, h2, fun a e => ⟨h3 a e, (h3 a e).2⟩⟩
theorem CG.cl {G : Nat → Prop} {w : World} {v : Value} {L : List (List Int)} (h : CG G w v L) : ∃ ao cap, v = .slice ao L.length cap ∧ CL w ao L ∧ (ao = none → cap = 0) ∧ L.length ≤ cap := by
  obtain ⟨ao, cap, h1, h2, h3, _, h5⟩ := h
  refine ⟨ao, cap, h1, fun i hi => ?_, h2, h3⟩
  obtain ⟨bk, off, ai, ci, r1, r2, r3, _⟩ := h5 i hi
  exact ⟨bk, off, ai, ci, r1, r2, r3⟩
/-- block r is the document's layout -/
def RL (r : Nat) (G : Nat → Prop) (w : World) (y : Ly) : Prop :=
  (∃ k, y.Ok k) ∧ G r ∧ ∃ (v u : Value) (F : Nat → Prop), w.heap[r]? = some (.cells #[.int .i64 y.ep, v, u, .int .i64 y.mark, .int .i64 y.size, .int .i64 y.n] 129 (0, 0)) ∧ CG F w v y.L ∧ UG1 F w u y.used ∧ (∀ k, F k → G k) ∧ ¬ F r ∧ ∀ k, G k → k < w.heap.size
theorem rl_thing (r : Nat) : Thing (RL r) where
  lt := by
    rintro G w y ⟨_, _, v, u, F, _, _, _, _, _, h⟩ k hk
    exact h k hk
  keep := by
    rintro G S w w' y ⟨h0, h1, v, u, F, h2, h3, h4, h5, h6, h7⟩ hk hS
    exact ⟨h0, h1, v, u, F, hk.heap (hS r h1) h2, h3.keep hk (fun k hf => hS k (h5 k hf)), h4.keep hk (fun k hf => hS k (h5 k hf)), h5, h6, fun k hg => Nat.lt_of_lt_of_le (h7 k hg) hk.size⟩
theorem newL_ok {ep : Int} {L : List (List Int)} (hg : goodB ep L = true) : (newL ep L).Ok (unitsR L).length := ⟨hg, Nat.le_refl _, by show (-1 : Int) ≤ -1 ∧ (-1 : Int) ≤ 16384; omega, by show (-1 : Int) ≤ -1 ∧ (-1 : Int) ≤ 16384; omega, by show (0 : Int) ≤ 0 ∧ (0 : Int) ≤ 65536; omega⟩
section
variable {w w1 W W' : World} {ep : Int} {ao : Option Addr} {n cap b B : Nat} {L : List (List Int)}
theorem ns_cl (h : W.cell? ⟨b, 0, none⟩ = some (.int .i64 ep) ∧ W.cell? ⟨b, 1, none⟩ = some (.slice ao n cap) ∧ CL W ao L ∧ Below B w1 W) : CL W ao L := h.2.2.1
theorem ns_on (hz : B ≤ w1.heap.size) (h : W.cell? ⟨b, 0, none⟩ = some (.int .i64 ep) ∧ W.cell? ⟨b, 1, none⟩ = some (.slice ao n cap) ∧ CL W ao L ∧ Below B w1 W) (hb : Below W.heap.size W W') :
    W'.cell? ⟨b, 0, none⟩ = some (.int .i64 ep) ∧ W'.cell? ⟨b, 1, none⟩ = some (.slice ao n cap) ∧ CL W' ao L ∧ Below B w1 W' :=
  ⟨cellB hb (block_lt_of_cell h.1) h.1, cellB hb (block_lt_of_cell h.2.1) h.2.1, h.2.2.1.below hb, h.2.2.2.trans (hb.mono (Nat.le_trans hz h.2.2.2.size))⟩
end
set_option maxHeartbeats 4000000 in
theorem rl_new_yes (ep : Int) (ao : Option Addr) (cap : Nat) (L : List (List Int)) (w : World) (h : CL w ao L) (hl : L.length ≤ 255 ∧ ∀ c ∈ L, c.length ≤ 255) (hg : goodB ep L = true) :
    Calls Tryz.prog 41 #[.agg #[.int .i64 ep, .slice ao L.length cap]] w fun e w' => ∃ (r : Nat) (G : Nat → Prop), e = .returned (.tuple #[ptrL r, .int .i64 0]) ∧ RL r G w' (newL ep L) ∧ (∀ k, G k → w.heap.size ≤ k) ∧ Below w.heap.size w w' := by
  have HB0 := Lib.hid (below_new w (.cells #[.int .i64 ep, .slice ao L.length cap] 29))
  have HC := Lib.hid (h.below HB0.out)
  have HP := Lib.hid (show PB (w.alloc (.cells #[.int .i64 ep, .slice ao L.length cap] 29)) w.heap.size ep ao L.length cap from heap_alloc_new _ _)
  have HM := Lib.hid hl
  have HOK := Lib.hid (newL_ok hg)
  have HM2 := Lib.hid (show L.length ≤ 1000 ∧ ∀ c ∈ L, c.length ≤ 1000 from ⟨by have := hl.1; omega, fun c hc => by have := hl.2 c hc; omega⟩)
  have CGD := Lib.hid (rgood_any ep ao cap L _ HC.out hl)
  rw [hg] at CGD
  clear h hl hg
  go_enter Tryz.func41, Tryz.ntmps41
  go_wp2_with (go_at_call 24; refine CGD.out.mono ?_; rintro e w1 ⟨rfl, hb1⟩; have HB1 := Lib.hid (HB0.out.trans (hb1.mono HB0.out.size)); have HC1 := Lib.hid (show CL w1.drew ao L from (HC.out.below hb1).below (Below.refl _ _).drew); have HP1 := Lib.hid (HP.out.below hb1); obtain ⟨p0, p1⟩ := HP1.out.cells; have HZ1 := Lib.hid (show w.heap.size ≤ w1.heap.size from by have := hb1.size; simp at this; omega); clear hb1)
  go_region_held3 (fun W => W.cell? ⟨w.heap.size, 0, none⟩ = some (.int .i64 ep) ∧ W.cell? ⟨w.heap.size, 1, none⟩ = some (.slice ao L.length cap) ∧ CL W ao L ∧ Below w.heap.size w1 W)
    (first | exact ⟨p0, p1, HC1.out, (Below.refl _ _).drew⟩ | exact ns_on HZ1.out (by assumption) (below_new _ _) | exact ns_on HZ1.out (by assumption) hb3 | exact ns_on HZ1.out (by assumption) hb2)
    (first
      | (go_at_call 23; refine (keepCopyO_any ep ao cap L _ (ns_cl (by assumption)) HM2.out).mono ?_; rintro e w2 ⟨v, rfl, hO, hb2⟩; have HO := Lib.hid hO; obtain ⟨bo, cb, hv, _⟩ := hO.form; subst hv)
      | (go_at_call 36; refine (refUnitsO_any ep ao cap L _ (ns_cl (by assumption)) ⟨HM.out.1, fun c hc => Nat.le_trans (HM.out.2 c hc) (by decide)⟩).mono ?_; rintro e w3 ⟨u, rfl, hU, hb3⟩; have HU := Lib.hid hU; obtain ⟨bu, cu, hu, _⟩ := hU.form; subst hu))
  all_goals
    go_wp2_with fail
    go_ret2
    have B2 : Below w.heap.size w w2 := HB1.out.trans ((Below.trans (B := w1.heap.size) (Below.refl _ _).drew hb2).mono HZ1.out)
    have B3 : Below w.heap.size w w3 := B2.trans (hb3.mono B2.size)
    have B4 := below_new w3 (.cells #[.int .i64 ep, .slice bo L.length cb, .slice bu (unitsR L).length cu, .int .i64 (-1), .int .i64 0, .int .i64 (-1)] 129)
    have hs2 := hb2.size
    have hs3 := hb3.size
    have hz := HZ1.out
    have hd : w1.drew.heap.size = w1.heap.size := rfl
    refine ⟨w3.heap.size, fun k => w.heap.size ≤ k ∧ k ≤ w3.heap.size, rfl, ⟨⟨_, HOK.out⟩, ⟨by omega, Nat.le_refl _⟩, .slice bo L.length cb, .slice bu (unitsR L).length cu, fun k => w.heap.size ≤ k ∧ k < w3.heap.size, heap_alloc_new _ _, ?_, ?_, fun k hk => ⟨hk.1, Nat.le_of_lt hk.2⟩, fun hk => by have := hk.2; omega, fun k hk => by have := hk.2; simp; omega⟩, fun k hk => hk.1, B3.trans (B4.mono B3.size)⟩
    · exact (((CG.of HO.out).keep (Kept.ofBelow hb3 (fun _ => True)) (fun _ _ => trivial)).keep (Kept.ofBelow B4 (fun _ => True)) (fun _ _ => trivial)).mono (fun k hk => ⟨by have := hk.1; omega, by have := hk.2; omega⟩)
    · exact ((UG1.of HU.out).keep (Kept.ofBelow B4 (fun _ => True)) (fun _ _ => trivial)).mono (fun k hk => ⟨by have := hk.1; omega, hk.2⟩)
end Go.Proofs.YtchhmfdalghgcaaGreat
namespace Go.Proofs.YtchhmfdalghgcaaGreat
open Go.RowKit
/-- the units of n chains, and of k units of the next -/
def preU (L : List (List Int)) (n k : Nat) : List Int := (L.take n).flatten ++ (L.getD n []).take k
theorem preU_succ {L : List (List Int)} {n k : Nat} (hn : n < L.length) (hk : k < L[n].length) : preU L n (k + 1) = preU L n k ++ [L[n][k]] := by
  unfold preU
  have e : L.getD n [] = L[n] := by simp [hn]
  rw [e, List.take_succ_eq_append_getElem hk, List.append_assoc]
theorem preU_chain {L : List (List Int)} {n : Nat} (hn : n < L.length) : preU L n L[n].length = preU L (n + 1) 0 := by
  unfold preU
  have e : L.getD n [] = L[n] := by simp [hn]
  rw [e, List.take_of_length_le (Nat.le_refl _), List.take_zero, List.append_nil, List.take_succ_eq_append_getElem hn, List.flatten_append]
  simp
theorem preU_all (L : List (List Int)) : preU L L.length 0 = L.flatten := by
  unfold preU
  rw [List.take_zero, List.append_nil, List.take_of_length_le (Nat.le_refl _)]
theorem preU_zero (L : List (List Int)) : preU L 0 0 = [] := rfl
theorem preU_nodup {L : List (List Int)} (h : L.flatten.Nodup) {n k : Nat} (hn : n < L.length) (hk : k < L[n].length) : L[n][k] ∉ preU L n k := by
  have e : L.flatten = preU L n k ++ (L[n].drop k ++ (L.drop (n + 1)).flatten) := by
    unfold preU
    have e : L.getD n [] = L[n] := by simp [hn]
    rw [e]
    have h1 : L = L.take n ++ (L[n] :: L.drop (n + 1)) := by rw [← List.drop_eq_getElem_cons hn, List.take_append_drop]
    have h2 : L.flatten = (L.take n ++ (L[n] :: L.drop (n + 1))).flatten := congrArg List.flatten h1
    rw [h2, List.flatten_append, List.flatten_cons, List.append_assoc, ← List.append_assoc (L[n].take k), List.take_append_drop]
  rw [e, List.nodup_append] at h
  intro hin
  exact h.2.2 _ hin _ (List.mem_append_left _ (by rw [List.drop_eq_getElem_cons hk]; exact List.mem_cons_self)) rfl
theorem preU_len {L : List (List Int)} {n k : Nat} (hl : L.length ≤ 255 ∧ ∀ c ∈ L, c.length ≤ 255) (hn : n < L.length) : (preU L n k).length ≤ 70000 := by
  unfold preU
  have h2 := flat_le (L.take n) 255 (fun c hc => hl.2 c (List.mem_of_mem_take hc))
  have h3 := hl.2 L[n] (List.getElem_mem hn)
  have h4 : ((L.getD n []).take k).length ≤ L[n].length := by
    have e : L.getD n [] = L[n] := by simp [hn]
    rw [e, List.length_take]
    exact Nat.min_le_right _ _
  have h5 : (L.take n).length ≤ 255 := by rw [List.length_take]; omega
  have h6 : 255 * (L.take n).length ≤ 255 * 255 := Nat.mul_le_mul_left _ h5
  rw [List.length_append]
  omega
theorem preU_mem {L : List (List Int)} {n k : Nat} {u : Int} (h : u ∈ preU L n k) : u ∈ L.flatten := by
  unfold preU at h
  rcases List.mem_append.1 h with h | h
  · obtain ⟨c, hc, hu⟩ := List.mem_flatten.1 h
    exact List.mem_flatten.2 ⟨c, List.mem_of_mem_take hc, hu⟩
  · have h2 := List.mem_of_mem_take h
    by_cases hn : n < L.length
    · rw [show L.getD n [] = L[n] by simp [hn]] at h2
      exact List.mem_flatten.2 ⟨_, List.getElem_mem hn, h2⟩
    · rw [show L.getD n [] = [] by simp [hn]] at h2
      cases h2
theorem preU_wf {w : World} {ao : Option Addr} {L : List (List Int)} (h : CL w ao L) (n k : Nat) : ∀ u ∈ preU L n k, (Lit.int .i64 u).wf = true := by
  intro u hu
  obtain ⟨c, hc, huc⟩ := List.mem_flatten.1 (preU_mem hu)
  obtain ⟨i, hi, rfl⟩ := List.getElem_of_mem hc
  obtain ⟨_, _, _, _, _, _, hN⟩ := h i hi
  exact hN.wf u huc
theorem nodup_snoc {l : List Int} {u : Int} (h : l.Nodup) (hu : u ∉ l) : (l ++ [u]).Nodup := by
  rw [List.nodup_append]
  refine ⟨h, by simp, fun a ha b hb e => ?_⟩
  rw [List.mem_singleton] at hb
  subst hb
  exact hu (e ▸ ha)
end Go.Proofs.YtchhmfdalghgcaaGreat
