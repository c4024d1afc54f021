/- What the program's own put, Write, Fill and Read make of pages, and return. Conditions: the object lies where the call was told; its pages are as the calls make them. What the document's own Of and Addr return. Conditions: the projection lies where the call was told, and is not too large. What the document's own Next returns, where the two projections don't fit by themselves. Conditions: the projections lie where the call was told, and are not too large. Plain facts on units as fetches find them: what a page is, what each question makes of it. No conditions but those that the statements name. -/
import Derived.Test.YthffjanidjjkdaaGreatG11b
import Derived.Deep.RegionWith
import Derived.Test.YthffjanidjjkdaaGreatG11a
import Derived.Test.YthffjanidjjkdaaGreatG10b
import Derived.Test.YthffjanidjjkdaaGreatG03b
set_option linter.unusedVariables false
namespace Go.Proofs.YthffjanidjjkdaaGreat
open Go.RowKit Go.Maps
set_option linter.unusedVariables false
set_option maxRecDepth 20000
theorem left_same {G : Nat → Prop} {w : World} {b : Nat} {p : Ps} (h : PGm G w b p) : Left PGm G w w b p := ⟨G, h, Kept.refl _ w, fun k hk => .inl hk⟩
theorem left_drawn {G : Nat → Prop} {w w' : World} {b : Nat} {p : Ps} (h : PGm G w b p) (hb : Below w.heap.size w w') : Left PGm G w w' b p := ⟨G, h.below hb, Kept.ofBelow hb _, fun k hk => .inl hk⟩
/-- a page is laid into the map -/
theorem put_ready {G : Nat → Prop} {w w1 : World} {b mb : Nat} {p : Ps} {x : Pg} (h1 : w.heap[b]? = some (.cells #[.int .i64 p.room, .int .i64 p.edge, .map (some mb)] 101 (0, 0))) (h2 : Tp w mb p.l) (h3 : mb ≠ b) (h4 : G b) (h5 : G mb) (h6 : ∀ k, G k → k < w.heap.size)
    (hb : Below w.heap.size w w1) (hx : (Lit.int .i64 x.at_).wf = true) (hn : x.at_ ∉ p.l.map (·.at_)) (hl : p.l.length ≤ 100000) :
    ∃ w2, (Instr.mapUpdate 99 (.map (some mb)) (.agg #[.int .i64 x.at_]) (.agg #[.int .i64 x.kind, .string x.s])).run Tryz.prog w1 = .ok () w2 ∧ Left PGm G w w2 b (p.add x) := by
  obtain ⟨w2, hr, hT, hg⟩ := (h2.below hb).put hx hn hl
  have hbl : b < w1.heap.size := Nat.lt_of_lt_of_le (h6 b h4) hb.size
  refine ⟨w2, hr, G, ⟨mb, (hg.block b hbl (fun e => h3 (Option.some.inj e).symm)).trans (below_heap hb h1), hT, h3, h4, h5, fun k hk => Nat.lt_of_lt_of_le (h6 k hk) (Nat.le_trans hb.size hg.size)⟩, (Kept.ofBelow hb _).grown hg (fun k e => by cases e; exact fun hn => hn h5), fun k hk => .inl hk⟩
set_option maxHeartbeats 8000000 in
theorem put_any (G : Nat → Prop) (w : World) (b : Nat) (p : Ps) (a kd : Int) (s : ByteArray) (h : PGm G w b p) (ht : thereB a = true) (hn : a ∉ p.l.map (·.at_)) (hs : s.size ≤ 1000000) (hl : p.l.length ≤ 100000) :
    Calls Tryz.prog 154 #[.pointer (some ⟨b, 0, none⟩), .int .i64 a, .int .i64 kd, .string s] w fun e w' => e = .returned (.int .i64 (if p.room ≤ p.l.length then 44 else 0)) ∧ Left PGm G w w' b (if p.room ≤ p.l.length then p else p.add ⟨a, kd, s⟩) := by
  have HP := Lib.hid h
  obtain ⟨mb, h1, h2, h3, h4, h5, h6⟩ := h
  obtain ⟨c0, c1, c2, _⟩ := three_cells h1
  have hc := fun (n : Nat) (ty : TypeId) => h2.count ty (w.drewN n) rfl
  by_cases hr : p.room ≤ p.l.length
  · have HL := Lib.hid (fun n => left_drawn HP.out (below_drewN (Below.refl w.heap.size w) n))
    rw [if_pos hr, if_pos hr]
    have hd : decide (p.room ≤ (p.l.length : Int)) = true := decide_eq_true hr
    clear h1 h2 h3 h4 h5 h6 hn ht hr HP
    go_enter Tryz.func154, Tryz.ntmps154
    go_wp2_with fail
    go_quiet (fail)
    go_wp2_with fail
    go_ret
    exact ⟨rfl, HL.out _⟩
  · have hd : decide (p.room ≤ (p.l.length : Int)) = false := decide_eq_false hr
    have HR := Lib.hid (fun w1 hb => @put_ready G w w1 b mb p ⟨a, kd, s⟩ h1 h2 h3 h4 h5 h6 hb (there_wf ht) hn hl)
    rw [if_neg hr, if_neg hr]
    have HC := Lib.hid (fun w1 (hb : Below w.heap.size w w1) => (three_cells (below_heap hb h1)).2.2.1)
    have HB := Lib.hid (fun n => below_drewN (Below.refl w.heap.size w) n)
    have HS := Lib.hid (show s.size ≤ 1099511627776 by omega)
    clear h1 h2 h3 h4 h5 h6 hn ht hr HP
    generalize p.add ⟨a, kd, s⟩ = p2 at *
    go_enter Tryz.func154, Tryz.ntmps154
    go_wp2_with fail
    go_quiet (fail)
    go_wp2_with fail
    have HBQ := Lib.hid ((HB.out nq).drew)
    have e2 := HC.out _ (HB.out nq)
    clear c0 c1 c2 hc hd
    generalize w.drewN nq = wq at *
    go_region_with (go_at_call 37; refine (clone_any s _ HS.out).mono ?_; rintro e w1 ⟨rfl, hb1⟩; have hb2 := HBQ.out.trans (hb1.mono HBQ.out.size); have d2 := HC.out _ hb2; obtain ⟨w2, hup, hlf⟩ := HR.out _ hb2; have HLF := Lib.hid hlf; clear hb1 hb2 hlf)
    all_goals
      go_wp2_with fail
      go_ret
      exact ⟨rfl, HLF.out⟩
end Go.Proofs.YthffjanidjjkdaaGreat
namespace Go.Proofs.YthffjanidjjkdaaGreat
open Go.RowKit
set_option maxRecDepth 20000
theorem got_ret {fn : Func} {p : Tmp} (h : fn.results = #[.cell p 41]) {a : Act} {w : World} {g : Nat} {x y z : Value} {R : Ending → World → Prop}
    (hg : w.heap[g]? = some (.cells #[x, y, z] 41 (0, 0))) (hp : a.tmps.getD p undef = .pointer (some ⟨g, 0, none⟩)) (hd : a.defers = [])
    (hR : R (.returned (.agg #[x, y, z])) w) : bodyPost Tryz.prog fn R .ret a w :=
  bodyPost_ret (results_cell_row h a.tmps w g 41 #[x, y, z] (0, 0) _ hp hg Tryz.underlying41 rfl (by kernel_rfl)) hd hR
/-- what is told of an address -/
def gotV (ep : Int) (L : List (List Int)) (a : Int) : Value := .agg #[.int .i64 (ofC ep L a), .int .i64 (ofP ep L a), .bool (ofB ep L a)]
theorem gotV_no {ep : Int} {L : List (List Int)} {a : Int} (h : ofB ep L a = false) : gotV ep L a = .agg #[.int .i64 0, .int .i64 0, .bool false] := by
  unfold gotV ofC ofP
  rw [h]
  rfl
theorem gotV_yes {ep : Int} {L : List (List Int)} {a : Int} (h : ofB ep L a = true) : gotV ep L a = .agg #[.int .i64 (a % (L.length : Int)), .int .i64 (a / (L.length : Int)), .bool true] := by
  unfold gotV ofC ofP
  rw [h]
  rfl
set_option maxHeartbeats 2000000 in
theorem refOf_any (ep : Int) (ao : Option Addr) (cap : Nat) (L : List (List Int)) (a : Int) (w : World) (h : CL w ao L) (hl : L.length ≤ 255 ∧ ∀ c ∈ L, c.length ≤ 255) :
    Calls Tryz.prog 14 #[.agg #[.int .i64 ep, .slice ao L.length cap], .int .i64 a] w fun e w' => e = .returned (gotV ep L a) ∧ Below w.heap.size w w' := by
  have HB0 := Lib.hid (((Below.refl w.heap.size w).alloc (Nat.le_refl _) (.cells #[.int .i64 ep, .slice ao L.length cap] 30)).alloc (by simp) (.cells #[.int .i64 0, .int .i64 0, .bool false] 41))
  have HC := Lib.hid (h.below HB0.out)
  have HP := Lib.hid (show PB (((w.alloc (.cells #[.int .i64 ep, .slice ao L.length cap] 30)).alloc (.cells #[.int .i64 0, .int .i64 0, .bool false] 41))) w.heap.size ep ao L.length cap from PB.below (heap_alloc_new _ _) ((Below.refl _ _).alloc (Nat.le_refl _) _))
  have HG := Lib.hid (show (((w.alloc (.cells #[.int .i64 ep, .slice ao L.length cap] 30)).alloc (.cells #[.int .i64 0, .int .i64 0, .bool false] 41))).heap[w.heap.size + 1]? = some (.cells #[.int .i64 0, .int .i64 0, .bool false] 41 (0, 0)) from by
    have h := heap_alloc_new (w.alloc (.cells #[.int .i64 ep, .slice ao L.length cap] 30)) (.cells #[.int .i64 0, .int .i64 0, .bool false] 41)
    simpa using h)
  have CG := Lib.hid (rgood_any ep ao cap L _ HC.out hl)
  have hl' : (L.length : Int) ≤ 255 := by have := hl.1; omega
  clear h hl
  by_cases hg : goodB ep L = true
  · rw [hg] at CG
    obtain ⟨n1, n4⟩ := good_len hg
    by_cases h0 : a < 0
    · rw [gotV_no (Bool.eq_false_iff.2 (fun e => by have := (ofB_iff.1 e).2; omega))]
      clear hg
      go_enter Tryz.func14, Tryz.ntmps14
      go_wp2_with (go_at_call 35; refine CG.out.mono ?_; rintro e w1 ⟨rfl, hb1⟩; have HB1 := Lib.hid (HB0.out.trans (hb1.mono HB0.out.size)); have HG1 := Lib.hid (below_heap hb1 HG.out); obtain ⟨c0, c1, c2, f0, f1, f2⟩ := three_cells HG1.out; clear hb1)
      exact got_ret rfl (by first | exact HG1.out | exact three_set2 (three_set1 (three_set0 HG1.out _) _) _) rfl rfl ⟨rfl, by first | exact HB1.out | exact ((HB1.out.setCell (by simp) _).setCell (by simp) _).setCell (by simp) _⟩
    · by_cases h1 : 16384 ≤ a
      · rw [gotV_no (Bool.eq_false_iff.2 (fun e => by have := (ofB_iff.1 e).2; omega))]
        have h0' : 0 ≤ a := by omega
        clear hg h0
        go_enter Tryz.func14, Tryz.ntmps14
        go_wp2_with (go_at_call 35; refine CG.out.mono ?_; rintro e w1 ⟨rfl, hb1⟩; have HB1 := Lib.hid (HB0.out.trans (hb1.mono HB0.out.size)); have HG1 := Lib.hid (below_heap hb1 HG.out); obtain ⟨c0, c1, c2, f0, f1, f2⟩ := three_cells HG1.out; clear hb1)
        exact got_ret rfl (by first | exact HG1.out | exact three_set2 (three_set1 (three_set0 HG1.out _) _) _) rfl rfl ⟨rfl, by first | exact HB1.out | exact ((HB1.out.setCell (by simp) _).setCell (by simp) _).setCell (by simp) _⟩
      · have h0' : 0 ≤ a := by omega
        have h1' : a < 16384 := by omega
        rw [gotV_yes (ofB_iff.2 ⟨hg, h0', h1'⟩)]
        obtain ⟨r1, r2, _⟩ := of_range (n := L.length) ⟨by omega, by omega⟩ ⟨h0', h1'⟩
        have e1 : IntKind.i64.wrap (a.tmod (L.length : Int)) = a % (L.length : Int) := by rw [Int.tmod_eq_emod_of_nonneg h0']; exact IntWalk.i64_in _ (by omega)
        have e2 : IntKind.i64.wrap (a.tdiv (L.length : Int)) = a / (L.length : Int) := by rw [Int.tdiv_eq_ediv_of_nonneg h0']; exact IntWalk.i64_in _ (by omega)
        have nz : ¬ (L.length : Int) = 0 := by omega
        clear hg h0 h1 r1 r2
        go_enter Tryz.func14, Tryz.ntmps14
        go_wp2_with (go_at_call 35; refine CG.out.mono ?_; rintro e w1 ⟨rfl, hb1⟩; have HB1 := Lib.hid (HB0.out.trans (hb1.mono HB0.out.size)); have HG1 := Lib.hid (below_heap hb1 HG.out); obtain ⟨c0, c1, c2, f0, f1, f2⟩ := three_cells HG1.out; obtain ⟨b0, b1⟩ := (HP.out.below hb1).cells; clear hb1)
        go_region
        go_wp2_with fail
        exact got_ret rfl (three_set2 (three_set1 (three_set0 HG1.out _) _) _) rfl rfl ⟨rfl, (((HB1.out.setCell (by simp) _).setCell (by simp) _).setCell (by simp) _).drew⟩
  · have hg' : goodB ep L = false := Bool.eq_false_iff.2 hg
    rw [gotV_no (Bool.eq_false_iff.2 (fun e => hg (ofB_iff.1 e).1))]
    rw [hg'] at CG
    clear hg hg'
    go_enter Tryz.func14, Tryz.ntmps14
    go_wp2_with (go_at_call 35; refine CG.out.mono ?_; rintro e w1 ⟨rfl, hb1⟩; have HB1 := Lib.hid (HB0.out.trans (hb1.mono HB0.out.size)); have HG1 := Lib.hid (below_heap hb1 HG.out); obtain ⟨c0, c1, c2, f0, f1, f2⟩ := three_cells HG1.out; clear hb1)
    exact got_ret rfl (by first | exact HG1.out | exact three_set2 (three_set1 (three_set0 HG1.out _) _) _) rfl rfl ⟨rfl, by first | exact HB1.out | exact ((HB1.out.setCell (by simp) _).setCell (by simp) _).setCell (by simp) _⟩
end Go.Proofs.YthffjanidjjkdaaGreat
namespace Go.Proofs.YthffjanidjjkdaaGreat
set_option linter.unusedVariables false
open Go.RowKit
set_option maxRecDepth 20000
end Go.Proofs.YthffjanidjjkdaaGreat
namespace Go.Proofs.YthffjanidjjkdaaGreat
set_option linter.unusedVariables false
open Go.RowKit
/-- a unit that is up, of the epoch 0, with room for all pages below 14, and no others -/
structure FtU (u : Us) : Prop where
  up : u.down = false
  ep : u.epoch = 0
  room : 100 ≤ u.p.room
  ok : u.p.Ok
  low : ∀ x ∈ u.p.l, x.at_ < 14
theorem FtU.len {u : Us} (h : FtU u) : u.p.l.length ≤ 14 := by
  have h1 := nodup_short 14 (u.p.l.map (·.at_)) h.ok.once (fun x hx => by
    obtain ⟨y, hy, rfl⟩ := List.mem_map.1 hx
    have h2 := (h.ok.each y hy).1.1
    have h3 := h.low y hy
    have h4 := h.ok.edge
    exact ⟨by omega, h3⟩)
  rwa [List.length_map] at h1
theorem there14 {q : Int} (hq : 0 ≤ q ∧ q < 14) : thereB q = true := thereB_iff.2 (by omega)
theorem add_off (p : Ps) (x : Pg) {q : Int} (h : x.at_ ≠ q) : (p.add x).kind q = p.kind q ∧ (p.add x).text q = p.text q := by
  have e : findP (p.l ++ [x]) q = findP p.l q := by
    unfold findP
    rw [List.find?_append]
    cases List.find? (fun x => decide (x.at_ = q)) p.l with
    | some y => rfl
    | none => simp [h]
  exact ⟨by simp only [Ps.kind, Ps.add, e], by simp only [Ps.text, Ps.add, e]⟩
theorem add_on {p : Ps} (ho : p.Ok) {x : Pg} (ht : thereB x.at_ = true) (hk : p.kind x.at_ = 0) : (p.add x).kind x.at_ = x.kind ∧ (p.add x).text x.at_ = x.s := by
  obtain ⟨h1, h2⟩ := ho.kind_zero ht hk
  have e : findP (p.l ++ [x]) x.at_ = some x := by
    unfold findP
    rw [List.find?_append, show List.find? (fun y => decide (y.at_ = x.at_)) p.l = none from findP_none.2 h2]
    simp
  refine ⟨?_, by simp only [Ps.text, Ps.add, e]⟩
  simp only [Ps.kind, Ps.add, e]
  rw [if_pos ht, if_neg (by omega)]
section
variable {u : Us} {k : Ak}
/-- a question to a page -/
structure AskF (k : Ak) : Prop where
  kind : k.kind = 1 ∨ k.kind = 2 ∨ k.kind = 3
  ep : k.epoch = 0
  page : 0 ≤ k.page ∧ k.page < 14
  data : k.data.size ≤ 4096
theorem FtU.ans_eq (h : FtU u) (hk : AskF k) : u.ans k = anP (u.pageE k) 0 (if k.kind = 3 then u.p.readS k.page else noS) 0 := by
  have h1 := hk.kind
  unfold Us.ans
  rw [if_neg (by rw [h.up]; decide), if_neg (by omega), if_neg (by rw [h.ep, hk.ep]; omega), if_neg (by omega), h.ep]
theorem FtU.done_eq (h : FtU u) (hk : AskF k) : u.done k = ⟨u.pageP k, u.epoch, u.down⟩ := by
  have h1 := hk.kind
  unfold Us.done
  rw [if_neg (by rw [h.up, h.ep, hk.ep]; simp; omega), if_neg (by omega)]
theorem FtU.still (h : FtU u) (hk : AskF k) (e : u.pageP k = u.p) : u.done k = u := by rw [h.done_eq hk, e]
/-- what a question leaves: that unit, its other pages as they were -/
structure Leaf (u u' : Us) (q : Int) : Prop where
  ft : FtU u'
  edge : u'.p.edge = u.p.edge
  off : ∀ q', q' ≠ q → u'.p.kind q' = u.p.kind q' ∧ u'.p.text q' = u.p.text q'
theorem Leaf.refl (h : FtU u) (q : Int) : Leaf u u q := ⟨h, rfl, fun _ _ => ⟨rfl, rfl⟩⟩
theorem FtU.add (h : FtU u) {x : Pg} (hq : 0 ≤ x.at_ ∧ x.at_ < 14) (hk : u.p.kind x.at_ = 0) (hx : (x.kind = 1 ∨ x.kind = 2) ∧ x.s.size ≤ 4096) :
    Leaf u ⟨u.p.add x, u.epoch, u.down⟩ x.at_ ∧ (u.p.add x).kind x.at_ = x.kind ∧ (u.p.add x).text x.at_ = x.s := by
  have hl := h.len
  have hr := h.room
  refine ⟨⟨⟨h.up, h.ep, h.room, h.ok.add (there14 hq) hk (by omega) hx, fun y hy => ?_⟩, rfl, fun q' hq' => add_off u.p x (fun e => hq' e.symm)⟩, add_on h.ok (there14 hq) hk⟩
  rcases List.mem_append.1 (show y ∈ u.p.l ++ [x] from hy) with h1 | h1
  · exact h.low y h1
  · rw [List.mem_singleton.1 h1]; exact hq.2
theorem FtU.write_new (h : FtU u) (hk : AskF k) (h1 : k.kind = 1) (h0 : u.p.kind k.page = 0) : (u.ans k).code = 0 ∧ Leaf u (u.done k) k.page ∧ (u.done k).p.kind k.page = 1 ∧ (u.done k).p.text k.page = k.data := by
  have hl := h.len
  have hr := h.room
  have hd := hk.data
  have e1 : u.p.writeE k.page k.data = 0 := by
    unfold Ps.writeE
    rw [if_neg (by rw [there14 hk.page]; decide), if_neg (by omega), h0, if_neg (by decide), if_neg (by decide), if_neg (by omega)]
  have e2 : u.done k = ⟨u.p.add ⟨k.page, 1, k.data⟩, u.epoch, u.down⟩ := by
    rw [h.done_eq hk]
    unfold Us.pageP
    rw [if_pos h1]
    unfold Ps.write
    rw [e1, if_pos rfl]
  refine ⟨?_, ?_⟩
  · rw [h.ans_eq hk]
    show u.pageE k = 0
    unfold Us.pageE
    rw [if_pos h1, e1]
  · rw [e2]
    exact h.add (x := ⟨k.page, 1, k.data⟩) hk.page h0 ⟨.inl rfl, hd⟩
theorem FtU.write_old (h : FtU u) (hk : AskF k) (h1 : k.kind = 1) (h0 : u.p.kind k.page ≠ 0) : (u.ans k).code = (if u.p.kind k.page = 3 then 43 else 41) ∧ u.done k = u := by
  have hd := hk.data
  have e1 : u.p.writeE k.page k.data = (if u.p.kind k.page = 3 then 43 else 41) := by
    unfold Ps.writeE
    rw [if_neg (by rw [there14 hk.page]; decide), if_neg (by omega), if_pos h0]
  refine ⟨?_, h.still hk ?_⟩
  · rw [h.ans_eq hk]
    show u.pageE k = _
    unfold Us.pageE
    rw [if_pos h1, e1]
  · unfold Us.pageP
    rw [if_pos h1]
    unfold Ps.write
    rw [e1, if_neg (by split <;> decide)]
theorem FtU.fill_new (h : FtU u) (hk : AskF k) (h1 : k.kind = 2) (h0 : u.p.kind k.page = 0) : (u.ans k).code = 0 ∧ Leaf u (u.done k) k.page ∧ (u.done k).p.kind k.page = 2 := by
  have hl := h.len
  have hr := h.room
  have e1 : u.p.fillE k.page = 0 := by
    unfold Ps.fillE
    rw [if_neg (by rw [there14 hk.page]; decide), h0, if_neg (by decide), if_neg (by decide), if_neg (by decide), if_neg (by omega)]
  have e2 : u.done k = ⟨u.p.add ⟨k.page, 2, ⟨#[]⟩⟩, u.epoch, u.down⟩ := by
    rw [h.done_eq hk]
    unfold Us.pageP
    rw [if_neg (by omega), if_pos h1]
    unfold Ps.fill
    rw [if_pos ⟨e1, by rw [h0]; decide⟩]
  refine ⟨?_, ?_⟩
  · rw [h.ans_eq hk]
    show u.pageE k = 0
    unfold Us.pageE
    rw [if_neg (by omega), if_pos h1, e1]
  · rw [e2]
    obtain ⟨r1, r2, _⟩ := h.add (x := ⟨k.page, 2, ⟨#[]⟩⟩) hk.page h0 ⟨.inr rfl, Nat.zero_le _⟩
    exact ⟨r1, r2⟩
theorem FtU.fill_old (h : FtU u) (hk : AskF k) (h1 : k.kind = 2) (h0 : u.p.kind k.page ≠ 0) : (u.ans k).code = (if u.p.kind k.page = 3 then 43 else if u.p.kind k.page = 2 then 0 else 41) ∧ u.done k = u := by
  have hks := h.ok.kinds k.page
  have e1 : u.p.fillE k.page = (if u.p.kind k.page = 3 then 43 else if u.p.kind k.page = 2 then 0 else 41) := by
    unfold Ps.fillE
    rw [if_neg (by rw [there14 hk.page]; decide)]
    rcases hks with e | e | e | e
    · exact absurd e h0
    all_goals rw [e]; rfl
  refine ⟨?_, h.still hk ?_⟩
  · rw [h.ans_eq hk]
    show u.pageE k = _
    unfold Us.pageE
    rw [if_neg (by omega), if_pos h1, e1]
  · unfold Us.pageP
    rw [if_neg (by omega), if_pos h1]
    unfold Ps.fill
    rw [e1]
    refine if_neg (fun e => ?_)
    obtain ⟨e2, e3⟩ := e
    rw [if_neg e3] at e2
    split at e2 <;> omega
theorem FtU.read (h : FtU u) (hk : AskF k) (h1 : k.kind = 3) : (u.ans k).code = (if u.p.kind k.page = 3 then 43 else if u.p.kind k.page = 0 then 42 else if u.p.kind k.page = 2 then 46 else 0) ∧ (u.p.kind k.page = 1 → (u.ans k).data = u.p.text k.page) ∧ u.done k = u := by
  have e1 : u.p.readE k.page = (if u.p.kind k.page = 3 then 43 else if u.p.kind k.page = 0 then 42 else if u.p.kind k.page = 2 then 46 else 0) := by
    unfold Ps.readE
    rw [if_neg (by rw [there14 hk.page]; decide)]
  rw [h.ans_eq hk]
  refine ⟨?_, fun e => ?_, h.still hk ?_⟩
  · show u.pageE k = _
    unfold Us.pageE
    rw [if_neg (by omega), if_neg (by omega), if_pos h1, e1]
  · show (if k.kind = 3 then u.p.readS k.page else noS) = _
    rw [if_pos h1]
    unfold Ps.readS
    rw [e1, e]
    rfl
  · unfold Us.pageP
    rw [if_neg (by omega), if_neg (by omega), if_pos h1]
end
end Go.Proofs.YthffjanidjjkdaaGreat
