/- What the small functions of the program's layout return, and what the library's Contains does on numbers. Conditions: as each statement says. What the program's unit answers a question to its pages. Conditions: it and the question lie where the call was told; the question's data are not too long. (Written by gen/genunpb.py.) The document's own nodes in memory: the layout, the sequencer, the block of pointers, the units, each in blocks of its own. No conditions. What the program's own Below and Addr return. Conditions: the projection lies where the call was told, and is not too large. -/
import Derived.Test.YthffjanidjjkdaaGreatG16a
import Derived.Test.YthffjanidjjkdaaGreatG14a
import Derived.Deep.RegionHeld3
import Derived.Test.YthffjanidjjkdaaGreatG08b
import Derived.Test.YthffjanidjjkdaaGreatG09b
import Derived.Test.YthffjanidjjkdaaGreatG12a
set_option linter.unusedVariables false
namespace Go.Proofs.YthffjanidjjkdaaGreat
set_option linter.unusedVariables false
open Go.RowKit Go.Maps
set_option maxRecDepth 20000
theorem lwithin_any (v a b : Int) (w : World) :
    Calls Tryz.prog 165 #[.int .i64 v, .int .i64 a, .int .i64 b] w fun e w' => e = .returned (.bool (inB v a b)) ∧ w = w' := by
  by_cases h1 : a ≤ v
  · by_cases h2 : v ≤ b
    · rw [show inB v a b = true from decide_eq_true ⟨h1, h2⟩]
      go_enter Tryz.func165, Tryz.ntmps165
      go_wp2_with fail
      go_ret
      exact ⟨rfl, rfl⟩
    · rw [show inB v a b = false from decide_eq_false (fun h => h2 h.2)]
      have h3 : decide (v ≤ b) = false := decide_eq_false h2
      clear h2
      go_enter Tryz.func165, Tryz.ntmps165
      go_wp2_with fail
      go_ret
      exact ⟨rfl, rfl⟩
  · rw [show inB v a b = false from decide_eq_false (fun h => h1 h.1)]
    have h3 : decide (a ≤ v) = false := decide_eq_false h1
    clear h1
    go_enter Tryz.func165, Tryz.ntmps165
    go_wp2_with fail
    go_ret
    exact ⟨rfl, rfl⟩
/-- is an image within its bounds? -/
def goodI (p s n : Int) : Bool := inB p 0 16383 && inB s 1 65536 && inB n 0 16384
theorem goodI_no {a : Ak} (h : badM a) : goodI a.page a.size a.n = false := by
  unfold badM at h
  unfold goodI inB
  by_cases h1 : 0 ≤ a.page ∧ a.page ≤ 16383
  · by_cases h2 : 1 ≤ a.size ∧ a.size ≤ 65536
    · have h3 : ¬ (0 ≤ a.n ∧ a.n ≤ 16384) := by omega
      rw [decide_eq_false h3, Bool.and_false]
    · rw [decide_eq_false h2, Bool.and_false, Bool.false_and]
  · rw [decide_eq_false h1, Bool.false_and, Bool.false_and]
theorem goodI_yes {a : Ak} (h : ¬ badM a) : goodI a.page a.size a.n = true := by
  unfold badM at h
  unfold goodI inB
  rw [decide_eq_true (by omega : 0 ≤ a.page ∧ a.page ≤ 16383), decide_eq_true (by omega : 1 ≤ a.size ∧ a.size ≤ 65536), decide_eq_true (by omega : 0 ≤ a.n ∧ a.n ≤ 16384)]
  rfl
theorem lgood_any (p s n : Int) (w : World) :
    Calls Tryz.prog 163 #[.agg #[.int .i64 p, .int .i64 s, .int .i64 n]] w fun e w' => e = .returned (.bool (goodI p s n)) ∧ Below w.heap.size w w' := by
  have C0 := Lib.hid (fun w => lwithin_any p 0 16383 w)
  have C1 := Lib.hid (fun w => lwithin_any s 1 65536 w)
  have C2 := Lib.hid (fun w => lwithin_any n 0 16384 w)
  have HB := Lib.hid (below_new w (.cells #[.int .i64 p, .int .i64 s, .int .i64 n] 142))
  unfold goodI
  generalize inB p 0 16383 = g0 at *
  generalize inB s 1 65536 = g1 at *
  generalize inB n 0 16384 = g2 at *
  cases g0 <;> cases g1 <;> cases g2
  all_goals
    go_enter Tryz.func163, Tryz.ntmps163
    go_wp2_with (go_at_call 165; first | (with_reducible refine (C0.out _).mono ?_; rintro e w1 ⟨rfl, rfl⟩) | (with_reducible refine (C1.out _).mono ?_; rintro e w1 ⟨rfl, rfl⟩) | (with_reducible refine (C2.out _).mono ?_; rintro e w1 ⟨rfl, rfl⟩))
    go_ret
    exact ⟨rfl, HB.out⟩
theorem ltold_any (p s n : Int) (w : World) :
    Calls Tryz.prog 159 #[.agg #[.int .i64 p, .int .i64 s, .int .i64 n]] w fun e w' => e = .returned (.agg #[.int .i64 0, .int .i64 n, .string ⟨#[]⟩, .int .i64 0, .slice none 0 0, .int .i64 p, .int .i64 s, .int .i64 0]) ∧ Below w.heap.size w w' := by
  have H := two_blocks w #[.int .i64 p, .int .i64 s, .int .i64 n] #[.int .i64 0, .int .i64 n, .string ⟨#[]⟩, .int .i64 0, .slice none 0 0, .int .i64 p, .int .i64 s, .int .i64 0] 142 58
  go_enter Tryz.func159, Tryz.ntmps159
  go_wp2_with fail
  exact ans_ret (x := anM n p s) (ao := none) (cap := 0) rfl H.2 rfl rfl ⟨rfl, (below_new _ _).alloc (by simp) _⟩
theorem lcoded_any (c : Int) (w : World) : Calls Tryz.prog 158 #[.int .i64 c] w fun e w' => e = .returned (.agg #[.int .i64 c, .int .i64 0, .string ⟨#[]⟩, .int .i64 0, .slice none 0 0, .int .i64 0, .int .i64 0, .int .i64 0]) ∧ Below w.heap.size w w' := by
  go_enter Tryz.func158, Tryz.ntmps158
  go_wp2
  exact ans_ret (x := anP c 0 noL 0) (ao := none) (cap := 0) rfl (heap_alloc_new _ _) rfl rfl ⟨rfl, (Below.refl _ _).alloc (Nat.le_refl _) _⟩
theorem lindex_any (l : List Int) (u : Int) (ao : Option Addr) (cap : Nat) (w : World) (h : NLI w ao cap l) (hl : l.length ≤ 1000000) :
    Calls Tryz.prog 71 #[.slice ao l.length cap, .int .i64 u] w fun e w' => ∃ r : Int, e = .returned (.int .i64 r) ∧ w = w' ∧ ((0 ≤ r ∧ hasB l u = true) ∨ (r < 0 ∧ hasB l u = false)) := by
  have HY := Lib.hid (fun k (hk : k < l.length) => show u = l[k] → hasB l u = true from fun e => decide_eq_true (by rw [e]; exact List.getElem_mem hk))
  have HN := Lib.hid (show u ∉ l.take l.length → hasB l u = false from fun e => by rw [List.take_of_length_le (Nat.le_refl _)] at e; exact decide_eq_false e)
  generalize hasB l u = R at *
  have HA := Lib.hid h
  have hl' : (l.length : Int) ≤ 1000000 := by omega
  clear h
  go_enter Tryz.func71, Tryz.ntmps71
  go_wp2_with fail
  go_loop [8] (fun i => ∃ k : Nat, i = .int .i64 k ∧ k ≤ l.length ∧ Hid (u ∉ l.take k)) (fun i => l.length - (intOf i).toNat)
  case atStart => exact ⟨0, rfl, Nat.zero_le _, Lib.hid (by simp)⟩
  case round =>
    obtain ⟨k, rfl, hk, HT⟩ := hrel
    by_cases hlt : k < l.length
    · obtain ⟨bk, off, rfl, c0⟩ := HA.out.at k hlt
      have k0 : (k : Int) < (l.length : Int) := by omega
      by_cases he : u = l[k]
      · have HX := Lib.hid (HY.out k hlt he)
        have d0 : (u == l[k]) = true := beq_iff_eq.2 he
        clear he
        generalize l[k] = z at *
        go_wp2_with fail
        go_ret
        exact ⟨_, rfl, rfl, .inl ⟨by omega, HX.out⟩⟩
      · have HT2 := Lib.hid (show u ∉ l.take (k + 1) from by
          rw [List.take_succ_eq_append_getElem hlt, List.mem_append, List.mem_singleton]
          exact fun h => h.elim HT.out he)
        have d0 : (u == l[k]) = false := beq_eq_false_iff_ne.2 he
        clear he
        generalize l[k] = z at *
        go_wp2_with fail
        go_round
        case rel => exact ⟨k + 1, by go_num, by omega, HT2⟩
        case measure => simp [intOf]; omega
    · obtain rfl : k = l.length := by omega
      have HX := Lib.hid (HN.out HT.out)
      go_wp2_with fail
      go_ret
      exact ⟨_, rfl, rfl, .inr ⟨by decide, HX.out⟩⟩
theorem lcontains_any (l : List Int) (u : Int) (ao : Option Addr) (cap : Nat) (w : World) (h : NLI w ao cap l) (hl : l.length ≤ 1000000) :
    Calls Tryz.prog 61 #[.slice ao l.length cap, .int .i64 u] w fun e w' => e = .returned (.bool (hasB l u)) ∧ w = w' := by
  have CI := Lib.hid (lindex_any l u ao cap w h hl)
  clear h hl
  cases hb : hasB l u
  · rw [hb] at CI
    clear hb
    go_enter Tryz.func61, Tryz.ntmps61
    go_wp2_with (go_at_call 71; refine CI.out.mono ?_; rintro e w1 ⟨r, rfl, rfl, hr⟩; have hr0 : decide (0 ≤ r) = false := decide_eq_false (Int.not_le.2 (hr.elim (fun h => by cases h.2) (fun h => h.1))); clear hr)
    go_ret
    exact ⟨rfl, rfl⟩
  · rw [hb] at CI
    clear hb
    go_enter Tryz.func61, Tryz.ntmps61
    go_wp2_with (go_at_call 71; refine CI.out.mono ?_; rintro e w1 ⟨r, rfl, rfl, hr⟩; have hr0 : decide (0 ≤ r) = true := decide_eq_true (hr.elim (fun h => h.1) (fun h => by cases h.2)); clear hr)
    go_ret
    exact ⟨rfl, rfl⟩
end Go.Proofs.YthffjanidjjkdaaGreat
namespace Go.Proofs.YthffjanidjjkdaaGreat
set_option linter.unusedVariables false
open Go.RowKit
set_option maxRecDepth 20000
set_option maxHeartbeats 8000000 in
theorem un_read (b q : Nat) (G : Nat → Prop) (w : World) (u : Us) (a : Ak) (h : UM b q G w u) :
    Calls Tryz.prog 147 #[ptrV b, askV a] w fun e w' => e = .returned (anV (u.p.readE a.page) 0 (u.p.readS a.page) 0) ∧ Leaves (UM b q) G w w' ⟨u.p, u.epoch, u.down⟩ := by
  obtain ⟨k, un, ep, pg, sz, n, s, pe, L, ao, cap⟩ := a
  obtain ⟨p, ue, dn⟩ := u
  simp only at *
  have CC := Lib.hid coded_ag
  have HS := Lib.hid (boxed_start (um_thing b q) h #[.int .i64 k, .int .i64 un, .int .i64 ep, .int .i64 pg, .int .i64 sz, .int .i64 n, .string s, .int .i64 pe, .slice ao L.length cap])
  unfold zeroAn at HS
  have hbw := h.small
  clear h
  show Calls _ _ #[.pointer (some ⟨b, 0, none⟩), .agg #[.int .i64 k, .int .i64 un, .int .i64 ep, .int .i64 pg, .int .i64 sz, .int .i64 n, .string s, .int .i64 pe, .slice ao L.length cap]] w _
  go_enter Tryz.func147, Tryz.ntmps147
  go_wp2_with fail
  generalize hW0 : ((w.alloc (.cells #[.int .i64 k, .int .i64 un, .int .i64 ep, .int .i64 pg, .int .i64 sz, .int .i64 n, .string s, .int .i64 pe, .slice ao L.length cap] 62)).alloc (.cells #[.int .i64 0, .int .i64 0, .string ⟨#[]⟩, .int .i64 0, .slice none 0 0, .int .i64 0, .int .i64 0, .int .i64 0] 58)) = W0 at *
  clear hW0
  obtain ⟨l1, l2⟩ := HS.out.small
  have HD := Lib.hid (HS.out.drewN (um_thing b q) 1)
  obtain ⟨H, hH, hU⟩ := (HS.out.drewN (um_thing b q) 1).use
  have x3 : W0.cell? ⟨w.heap.size, 3, none⟩ = some (.int .i64 pg) := cell_of HS.out.ask 3
  have x6 : W0.cell? ⟨w.heap.size, 6, none⟩ = some (.string s) := cell_of HS.out.ask 6
  have c0 : W0.cell? ⟨b, 0, none⟩ = some (.pointer (some ⟨q, 0, none⟩)) := (three_cells hH.cells).1
  have hb : b < W0.heap.size := hH.small
  obtain ⟨F, hF, hok, hnx⟩ := hH.ready
  have HNX := Lib.hid (fun W2 p' h1 h2 => hU W2 _ (hnx W2 p' h1 h2))
  clear hnx hU hH
  go_region_held3 (fun W => W.cell? ⟨w.heap.size, 3, none⟩ = some (.int .i64 pg) ∧ W.cell? ⟨b, 0, none⟩ = some (.pointer (some ⟨q, 0, none⟩)))
    (first | assumption | exact ⟨x3, c0⟩)
    (first | (go_at_call 18; refine (pread_any F _ q p pg hF hok).mono ?_; rintro e w2 ⟨rfl, hb2⟩; have HT2 := Lib.hid (HD.out.below (um_thing b q) hb2); clear hb2; obtain ⟨K2, hK2, _⟩ := HT2.out.th; have S2 : w2.cell? ⟨w.heap.size, 3, none⟩ = some (.int .i64 pg) ∧ w2.cell? ⟨b, 0, none⟩ = some (.pointer (some ⟨q, 0, none⟩)) := ⟨cell_of HT2.out.ask 3, (three_cells hK2.cells).1⟩; clear hK2))
  go_wp2_with (go_at_call 142; refine (CC.out _ _).mono ?_; rintro e w3 ⟨rfl, hb3⟩; have HT3 := Lib.hid (HT2.out.below (um_thing b q) hb3); clear hb3; obtain ⟨nl1, nl2⟩ := HT3.out.small; obtain ⟨⟨ny0, ny1, ny2, ny3, ny4, ny5, ny6, ny7⟩, nfy0, nfy1, nfy2, nfy3, nfy4, nfy5, nfy6, nfy7⟩ := eight_cells HT3.out.ans)
  exact ans_ret (x := anP (p.readE pg) 0 (p.readS pg) 0) (ao := none) (cap := 0) rfl (below_heap ((Below.refl _ _).alloc (Nat.le_refl _) _) (HT3.out.fin (um_thing b q)).1) rfl rfl ⟨rfl, (HT3.out.fin (um_thing b q)).2.below (um_thing b q) ((Below.refl _ _).alloc (Nat.le_refl _) _)⟩
end Go.Proofs.YthffjanidjjkdaaGreat
namespace Go.Proofs.YthffjanidjjkdaaGreat
set_option linter.unusedVariables false
open Go.RowKit
set_option maxRecDepth 20000
/-- the block of 18 pointers, of which the first m units' are there -/
structure Tab (A : Array Value) (m : Nat) (B : Nat → Nat × Nat) (ro rl : Nat) : Prop where
  size : A.size = 18
  at_ : ∀ i, i < m → A[i]? = some (ptrU (B i).1)
  o : A[16]? = some (ptrO ro)
  l : A[17]? = some (ptrL rl)
theorem Tab.put {A : Array Value} {m : Nat} {B : Nat → Nat × Nat} {ro rl : Nat} (h : Tab A m B ro rl) (hm : m < 16) (x : Nat × Nat) : Tab (A.setIfInBounds m (ptrU x.1)) (m + 1) (fun j => if j = m then x else B j) ro rl := by
  have hs := h.size
  refine ⟨by simp [hs], fun i hi => ?_, ?_, ?_⟩
  · by_cases e : i = m
    · subst e
      simp [hs, show i < 18 by omega]
    · rw [Array.getElem?_setIfInBounds_ne (fun h => e h.symm), if_neg e]
      exact h.at_ i (by omega)
  · rw [Array.getElem?_setIfInBounds_ne (by omega)]
    exact h.o
  · rw [Array.getElem?_setIfInBounds_ne (by omega)]
    exact h.l
/-- its parts, one after another -/
def nodeT (r : Nat) (A : Array Value) (ro rl : Nat) (B : Nat → Nat × Nat) (n : Nd) : Nat → (Nat → Prop) → World → Prop
  | 0 => fun F w => RL rl F w n.l
  | 1 => fun F w => RO ro F w n.o
  | 2 => fun F w => w.heap[r]? = some (.cells A 129 (0, 0)) ∧ ∀ k, F k ↔ k = r
  | i + 3 => fun F w => RU (B i).1 (B i).2 F w (n.u i)
theorem nodeT_part (r : Nat) (A : Array Value) (ro rl : Nat) (B : Nat → Nat × Nat) (n : Nd) : ∀ i, Part (nodeT r A ro rl B n i)
  | 0 => (rl_thing rl).part n.l
  | 1 => (ro_thing ro).part n.o
  | 2 => ⟨fun h k hk => by rw [(h.2 k).1 hk]; exact lt_of_block h.1, fun h hk hS => ⟨hk.heap (hS r ((h.2 r).2 rfl)) h.1, h.2⟩⟩
  | i + 3 => (ru_thing (B i).1 (B i).2).part (n.u i)
/-- block r is the document's nodes -/
def RN (r : Nat) (G : Nat → Prop) (w : World) (n : Nd) : Prop := ∃ (A : Array Value) (ro rl : Nat) (B : Nat → Nat × Nat), Tab A 16 B ro rl ∧ BundG 19 (nodeT r A ro rl B n) G w
theorem rn_thing (r : Nat) : Thing (RN r) where
  lt := by
    rintro G w n ⟨A, ro, rl, B, h1, h2⟩
    exact h2.lt (fun i _ => nodeT_part r A ro rl B n i)
  keep := by
    rintro G S w w' n ⟨A, ro, rl, B, h1, h2⟩ hk hS
    exact ⟨A, ro, rl, B, h1, h2.keep (fun i _ => nodeT_part r A ro rl B n i) hk hS⟩
section
variable {r : Nat} {A : Array Value} {ro rl : Nat} {B : Nat → Nat × Nat} {n : Nd} {G : Nat → Prop} {w : World}
theorem rn_putO (h1 : Tab A 16 B ro rl) {o : Od} {G' : Nat → Prop} {W : World} (h : BundG 19 (swapP (nodeT r A ro rl B n) 1 (fun F W => RO ro F W o)) G' W) : RN r G' W (n.putO o) :=
  ⟨A, ro, rl, B, h1, h.same (fun i _ F W hF => by match i, hF with | 0, hF => exact hF | 1, hF => exact hF | 2, hF => exact hF | j + 3, hF => exact hF)⟩
end
end Go.Proofs.YthffjanidjjkdaaGreat
namespace Go.Proofs.YthffjanidjjkdaaGreat
open Go.RowKit
set_option maxRecDepth 20000
end Go.Proofs.YthffjanidjjkdaaGreat
