/- What the program's unit answers a question to its pages. Conditions: it and the question lie where the call was told; the question's data are not too long. (Written by gen/genunpb.py.) What the program's unit answers a question to its pages. Conditions: it and the question lie where the call was told; the question's data are not too long. (Written by gen/genunpb.py.) The document's own nodes in memory: the layout, the sequencer, the block of pointers, the units, each in blocks of its own. No conditions. -/
import Derived.Test.YtphigibhgldnpaaGreatG16a
import Derived.Deep.RegionHeld3
import Derived.Test.YtphigibhgldnpaaGreatG08b
import Derived.Test.YtphigibhgldnpaaGreatG09c
import Derived.Test.YtphigibhgldnpaaGreatG12b
set_option linter.unusedVariables false
namespace Go.Proofs.YtphigibhgldnpaaGreat
set_option linter.unusedVariables false
open Go.RowKit
set_option maxRecDepth 20000
set_option maxHeartbeats 8000000 in
theorem un_read (b q : Nat) (G : Nat → Prop) (w : World) (u : Us) (a : Ak) (h : UM b q G w u) :
    Calls Tryz.prog 118 #[ptrV b, askV a] w fun e w' => e = .returned (anV (u.p.readE a.page) 0 (u.p.readS a.page) 0) ∧ Leaves (UM b q) G w w' ⟨u.p, u.epoch, u.down⟩ := by
  obtain ⟨k, un, ep, pg, sz, n, s, pe, L, ao, cap⟩ := a
  obtain ⟨p, ue, dn⟩ := u
  simp only at *
  have CC := Lib.hid coded_ag
  have HS := Lib.hid (boxed_start (um_thing b q) h #[.int .i64 k, .int .i64 un, .int .i64 ep, .int .i64 pg, .int .i64 sz, .int .i64 n, .string s, .int .i64 pe, .slice ao L.length cap])
  unfold zeroAn at HS
  have hbw := h.small
  clear h
  show Calls _ _ #[.pointer (some ⟨b, 0, none⟩), .agg #[.int .i64 k, .int .i64 un, .int .i64 ep, .int .i64 pg, .int .i64 sz, .int .i64 n, .string s, .int .i64 pe, .slice ao L.length cap]] w _
  go_enter Tryz.func118, Tryz.ntmps118
  go_wp2_with fail
  generalize hW0 : ((w.alloc (.cells #[.int .i64 k, .int .i64 un, .int .i64 ep, .int .i64 pg, .int .i64 sz, .int .i64 n, .string s, .int .i64 pe, .slice ao L.length cap] 42)).alloc (.cells #[.int .i64 0, .int .i64 0, .string ⟨#[]⟩, .int .i64 0, .slice none 0 0, .int .i64 0, .int .i64 0, .int .i64 0] 39)) = W0 at *
  clear hW0
  obtain ⟨l1, l2⟩ := HS.out.small
  have HD := Lib.hid (HS.out.drewN (um_thing b q) 1)
  obtain ⟨H, hH, hU⟩ := (HS.out.drewN (um_thing b q) 1).use
  have x3 : W0.cell? ⟨w.heap.size, 3, none⟩ = some (.int .i64 pg) := cell_of HS.out.ask 3
  have x6 : W0.cell? ⟨w.heap.size, 6, none⟩ = some (.string s) := cell_of HS.out.ask 6
  have c0 : W0.cell? ⟨b, 0, none⟩ = some (.pointer (some ⟨q, 0, none⟩)) := (three_cells hH.cells).1
  have hb : b < W0.heap.size := hH.small
  obtain ⟨F, hF, hok, hnx⟩ := hH.ready
  have HNX := Lib.hid (fun W2 p' h1 h2 => hU W2 _ (hnx W2 p' h1 h2))
  clear hnx hU hH
  go_region_held3 (fun W => W.cell? ⟨w.heap.size, 3, none⟩ = some (.int .i64 pg) ∧ W.cell? ⟨b, 0, none⟩ = some (.pointer (some ⟨q, 0, none⟩)))
    (first | assumption | exact ⟨x3, c0⟩)
    (first | (go_at_call 123; refine (pread_any F _ q p pg hF hok).mono ?_; rintro e w2 ⟨rfl, hb2⟩; have HT2 := Lib.hid (HD.out.below (um_thing b q) hb2); clear hb2; obtain ⟨K2, hK2, _⟩ := HT2.out.th; have S2 : w2.cell? ⟨w.heap.size, 3, none⟩ = some (.int .i64 pg) ∧ w2.cell? ⟨b, 0, none⟩ = some (.pointer (some ⟨q, 0, none⟩)) := ⟨cell_of HT2.out.ask 3, (three_cells hK2.cells).1⟩; clear hK2))
  go_wp2_with (go_at_call 113; refine (CC.out _ _).mono ?_; rintro e w3 ⟨rfl, hb3⟩; have HT3 := Lib.hid (HT2.out.below (um_thing b q) hb3); clear hb3; obtain ⟨nl1, nl2⟩ := HT3.out.small; obtain ⟨⟨ny0, ny1, ny2, ny3, ny4, ny5, ny6, ny7⟩, nfy0, nfy1, nfy2, nfy3, nfy4, nfy5, nfy6, nfy7⟩ := eight_cells HT3.out.ans)
  exact ans_ret (x := anP (p.readE pg) 0 (p.readS pg) 0) (ao := none) (cap := 0) rfl (below_heap ((Below.refl _ _).alloc (Nat.le_refl _) _) (HT3.out.fin (um_thing b q)).1) rfl rfl ⟨rfl, (HT3.out.fin (um_thing b q)).2.below (um_thing b q) ((Below.refl _ _).alloc (Nat.le_refl _) _)⟩
end Go.Proofs.YtphigibhgldnpaaGreat
namespace Go.Proofs.YtphigibhgldnpaaGreat
set_option linter.unusedVariables false
open Go.RowKit
set_option maxRecDepth 20000
set_option maxHeartbeats 8000000 in
theorem un_seal (b q : Nat) (G : Nat → Prop) (w : World) (u : Us) (a : Ak) (h : UM b q G w u) (hw : i64w a.epoch) :
    Calls Tryz.prog 120 #[ptrV b, askV a] w fun e w' => e = .returned (anV 0 u.p.tail noS 0) ∧ Leaves (UM b q) G w w' ⟨u.p, a.epoch, u.down⟩ := by
  obtain ⟨k, un, ep, pg, sz, n, s, pe, L, ao, cap⟩ := a
  obtain ⟨p, ue, dn⟩ := u
  simp only at *
  have HS := Lib.hid (boxed_start (um_thing b q) h #[.int .i64 k, .int .i64 un, .int .i64 ep, .int .i64 pg, .int .i64 sz, .int .i64 n, .string s, .int .i64 pe, .slice ao L.length cap])
  unfold zeroAn at HS
  have hbw := h.small
  obtain ⟨c0, c1, c2, f0, f1, f2⟩ := three_cells h.cells
  obtain ⟨H, hH, hU⟩ := HS.out.use
  have HE := hU _ _ (hH.seal hw)
  rw [World.setCell_alloc_past (hn := by simp; omega), World.setCell_alloc_past (hn := hbw)] at HE
  replace HE := Lib.hid HE
  obtain ⟨H2, hH2, _⟩ := HE.out.use
  obtain ⟨F, hF, hok, _⟩ := hH2.ready
  clear h hU hH hH2
  show Calls _ _ #[.pointer (some ⟨b, 0, none⟩), .agg #[.int .i64 k, .int .i64 un, .int .i64 ep, .int .i64 pg, .int .i64 sz, .int .i64 n, .string s, .int .i64 pe, .slice ao L.length cap]] w _
  go_enter Tryz.func120, Tryz.ntmps120
  go_wp2_with (first | (go_at_call 36; refine (ptail_any F _ q p hF hok).mono ?_; rintro e w2 ⟨rfl, hb2⟩; have HT3 := Lib.hid (HE.out.below (um_thing b q) hb2); clear hb2; obtain ⟨nl1, nl2⟩ := HT3.out.small; obtain ⟨⟨ny0, ny1, ny2, ny3, ny4, ny5, ny6, ny7⟩, nfy0, nfy1, nfy2, nfy3, nfy4, nfy5, nfy6, nfy7⟩ := eight_cells HT3.out.ans))
  exact ans_ret (x := anP 0 p.tail noS 0) (ao := none) (cap := 0) rfl (HT3.out.fin (um_thing b q)).1 rfl rfl ⟨rfl, (HT3.out.fin (um_thing b q)).2⟩
end Go.Proofs.YtphigibhgldnpaaGreat
namespace Go.Proofs.YtphigibhgldnpaaGreat
set_option linter.unusedVariables false
open Go.RowKit
set_option maxRecDepth 20000
/-- the block of 18 pointers, of which the first m units' are there -/
structure Tab (A : Array Value) (m : Nat) (B : Nat → Nat × Nat) (ro rl : Nat) : Prop where
  size : A.size = 18
  at_ : ∀ i, i < m → A[i]? = some (ptrU (B i).1)
  o : A[16]? = some (ptrO ro)
  l : A[17]? = some (ptrL rl)
theorem Tab.put {A : Array Value} {m : Nat} {B : Nat → Nat × Nat} {ro rl : Nat} (h : Tab A m B ro rl) (hm : m < 16) (x : Nat × Nat) : Tab (A.setIfInBounds m (ptrU x.1)) (m + 1) (fun j => if j = m then x else B j) ro rl := by
  have hs := h.size
  refine ⟨by simp [hs], fun i hi => ?_, ?_, ?_⟩
  · by_cases e : i = m
    · subst e
      simp [hs, show i < 18 by omega]
    · rw [Array.getElem?_setIfInBounds_ne (fun h => e h.symm), if_neg e]
      exact h.at_ i (by omega)
  · rw [Array.getElem?_setIfInBounds_ne (by omega)]
    exact h.o
  · rw [Array.getElem?_setIfInBounds_ne (by omega)]
    exact h.l
/-- its parts, one after another -/
def nodeT (r : Nat) (A : Array Value) (ro rl : Nat) (B : Nat → Nat × Nat) (n : Nd) : Nat → (Nat → Prop) → World → Prop
  | 0 => fun F w => RL rl F w n.l
  | 1 => fun F w => RO ro F w n.o
  | 2 => fun F w => w.heap[r]? = some (.cells A 70 (0, 0)) ∧ ∀ k, F k ↔ k = r
  | i + 3 => fun F w => RU (B i).1 (B i).2 F w (n.u i)
theorem nodeT_part (r : Nat) (A : Array Value) (ro rl : Nat) (B : Nat → Nat × Nat) (n : Nd) : ∀ i, Part (nodeT r A ro rl B n i)
  | 0 => (rl_thing rl).part n.l
  | 1 => (ro_thing ro).part n.o
  | 2 => ⟨fun h k hk => by rw [(h.2 k).1 hk]; exact lt_of_block h.1, fun h hk hS => ⟨hk.heap (hS r ((h.2 r).2 rfl)) h.1, h.2⟩⟩
  | i + 3 => (ru_thing (B i).1 (B i).2).part (n.u i)
/-- block r is the document's nodes -/
def RN (r : Nat) (G : Nat → Prop) (w : World) (n : Nd) : Prop := ∃ (A : Array Value) (ro rl : Nat) (B : Nat → Nat × Nat), Tab A 16 B ro rl ∧ BundG 19 (nodeT r A ro rl B n) G w
theorem rn_thing (r : Nat) : Thing (RN r) where
  lt := by
    rintro G w n ⟨A, ro, rl, B, h1, h2⟩
    exact h2.lt (fun i _ => nodeT_part r A ro rl B n i)
  keep := by
    rintro G S w w' n ⟨A, ro, rl, B, h1, h2⟩ hk hS
    exact ⟨A, ro, rl, B, h1, h2.keep (fun i _ => nodeT_part r A ro rl B n i) hk hS⟩
section
variable {r : Nat} {A : Array Value} {ro rl : Nat} {B : Nat → Nat × Nat} {n : Nd} {G : Nat → Prop} {w : World}
theorem rn_putL (h1 : Tab A 16 B ro rl) {y : Ly} {G' : Nat → Prop} {W : World} (h : BundG 19 (swapP (nodeT r A ro rl B n) 0 (fun F W => RL rl F W y)) G' W) : RN r G' W (n.putL y) :=
  ⟨A, ro, rl, B, h1, h.same (fun i _ F W hF => by match i, hF with | 0, hF => exact hF | 1, hF => exact hF | 2, hF => exact hF | j + 3, hF => exact hF)⟩
theorem rn_putO (h1 : Tab A 16 B ro rl) {o : Od} {G' : Nat → Prop} {W : World} (h : BundG 19 (swapP (nodeT r A ro rl B n) 1 (fun F W => RO ro F W o)) G' W) : RN r G' W (n.putO o) :=
  ⟨A, ro, rl, B, h1, h.same (fun i _ F W hF => by match i, hF with | 0, hF => exact hF | 1, hF => exact hF | 2, hF => exact hF | j + 3, hF => exact hF)⟩
theorem rn_putU (h1 : Tab A 16 B ro rl) {k : Nat} {u : Us} {G' : Nat → Prop} {W : World} (h : BundG 19 (swapP (nodeT r A ro rl B n) (k + 3) (fun F W => RU (B k).1 (B k).2 F W u)) G' W) : RN r G' W (n.putU k u) := by
  refine ⟨A, ro, rl, B, h1, h.same (fun i _ F W hF => ?_)⟩
  match i, hF with
  | 0, hF => exact hF
  | 1, hF => exact hF
  | 2, hF => exact hF
  | j + 3, hF =>
    unfold swapP at hF
    by_cases e : j = k
    · subst e
      rw [if_pos rfl] at hF
      show RU _ _ F W ((n.putU j u).u j)
      rw [putU_at]
      exact hF
    · rw [if_neg (by omega)] at hF
      show RU _ _ F W ((n.putU k u).u j)
      rw [putU_off n u e]
      exact hF
/-- the block of pointers -/
theorem RN.tab (h : RN r G w n) : ∃ (A : Array Value) (ro rl : Nat) (B : Nat → Nat × Nat), Tab A 16 B ro rl ∧ w.heap[r]? = some (.cells A 70 (0, 0)) ∧ G r ∧ BundG 19 (nodeT r A ro rl B n) G w := by
  obtain ⟨A, ro, rl, B, h1, h2⟩ := h
  obtain ⟨F, h3, h4⟩ := h2.look (i := 2) (by omega)
  exact ⟨A, ro, rl, B, h1, h3.1, h4 r ((h3.2 r).2 rfl), h2⟩
end
end Go.Proofs.YtphigibhgldnpaaGreat
