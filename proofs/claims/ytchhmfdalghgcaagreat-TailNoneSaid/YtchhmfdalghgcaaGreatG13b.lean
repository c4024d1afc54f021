/- What the document's own Next returns. Conditions: the projections lie where the call was told, and are not too large. What the program's own Trim makes of pages. Conditions: the object lies where the call was told; its pages are as the calls make them. What the program's own 'met' returns: a map in which each unit of a projection leads to a place where it stands, and nothing else does. Conditions: the projection lies where the call was told, and is not too large. What the program's sequencer that nobody made answers any question. No conditions. -/
import Derived.Test.YtchhmfdalghgcaaGreatG12a
import Derived.Test.YtchhmfdalghgcaaGreatG08b
import Derived.Test.YtchhmfdalghgcaaGreatG12b
import Derived.StillTailTactics
import Derived.Maps.OwnSet
import Derived.Test.YtchhmfdalghgcaaGreatG11a
import Derived.Maps.RangeWalk
import Derived.Test.YtchhmfdalghgcaaGreatG10b
set_option linter.unusedVariables false
namespace Go.Proofs.YtchhmfdalghgcaaGreat
set_option linter.unusedVariables false
open Go.RowKit
set_option maxRecDepth 20000

theorem zip_no {L1 L2 : List (List Int)} {f : List Int × List Int → Bool} {k : Nat} (h1 : k < L1.length) (h2 : k < L2.length) (h : f (L1[k], L2[k]) = false) : (L1.zip L2).all f = false := by
  rw [Bool.eq_false_iff]
  intro e
  have hm : (L1[k], L2[k]) ∈ L1.zip L2 := by
    have : (L1.zip L2)[k]'(by rw [List.length_zip]; omega) = (L1[k], L2[k]) := List.getElem_zip
    rw [← this]
    exact List.getElem_mem _
  rw [List.all_eq_true.1 e _ hm] at h
  cases h
theorem zip_yes {L1 L2 : List (List Int)} {f : List Int × List Int → Bool} (h : ∀ i, i < L1.length → ∀ (h1 : i < L1.length) (h2 : i < L2.length), f (L1[i], L2[i]) = true) : (L1.zip L2).all f = true := by
  rw [List.all_eq_true]
  intro c hc
  obtain ⟨i, hi, rfl⟩ := List.getElem_of_mem hc
  rw [List.length_zip] at hi
  rw [List.getElem_zip]
  exact h i (by omega) (by omega) (by omega)
def outB (U : List Int) (l : List Int) : Bool := l.all (fun y => !decide (y ∈ U))
theorem seq_step {U old now rest : List Int} {y : Nat} {m : Bool} (hy : y < now.length) (hz : now[y] ∈ old) : seqB U old (now.drop y) rest m = match rest.dropWhile (fun t => t != now[y]) with | [] => false | _ :: r => seqB U old (now.drop (y + 1)) r true := by
  rw [List.drop_eq_getElem_cons hy]
  show (if now[y] ∈ old then _ else _) = _
  rw [if_pos hz]
  rfl
theorem seq_found {U old now rest r : List Int} {y : Nat} {m : Bool} {t : Int} (hy : y < now.length) (hz : now[y] ∈ old) (h : rest.dropWhile (fun t => t != now[y]) = t :: r) : seqB U old (now.drop y) rest m = seqB U old (now.drop (y + 1)) r (decide (0 < y + 1)) := by
  rw [seq_step hy hz, h]
  simp
theorem seq_lost {U old now rest : List Int} {y : Nat} {m : Bool} (hy : y < now.length) (hz : now[y] ∈ old) (h : rest.dropWhile (fun t => t != now[y]) = []) : seqB U old (now.drop y) rest m = false := by
  rw [seq_step hy hz, h]
theorem drop_at {l : List Int} {x : Nat} (h : x < l.length) {p : Int → Bool} (e : p l[x] = true) : (l.drop x).dropWhile p = (l.drop (x + 1)).dropWhile p := by
  rw [List.drop_eq_getElem_cons h, List.dropWhile_cons_of_pos e]
theorem drop_stop {l : List Int} {x : Nat} (h : x < l.length) {p : Int → Bool} (e : p l[x] = false) : (l.drop x).dropWhile p = l[x] :: l.drop (x + 1) := by
  rw [List.drop_eq_getElem_cons h, List.dropWhile_cons_of_neg (by rw [e]; decide)]
theorem out_step {U l : List Int} {y : Nat} (h : y < l.length) (e : l[y] ∉ U) : outB U (l.drop y) = outB U (l.drop (y + 1)) := by
  rw [List.drop_eq_getElem_cons h]
  show (!decide (l[y] ∈ U) && outB U (l.drop (y + 1))) = _
  rw [decide_eq_false e]
  rfl
theorem out_no {U l : List Int} {y : Nat} (h : y < l.length) (e : l[y] ∈ U) : outB U (l.drop y) = false := by
  rw [List.drop_eq_getElem_cons h]
  show (!decide (l[y] ∈ U) && outB U (l.drop (y + 1))) = _
  rw [decide_eq_true e]
  rfl
end Go.Proofs.YtchhmfdalghgcaaGreat
namespace Go.Proofs.YtchhmfdalghgcaaGreat
open Go.RowKit Go.Maps
set_option linter.unusedVariables false
set_option maxRecDepth 20000
theorem fromP_self {p : Ps} (h : p.Ok) {m : Int} (hm : m ≤ p.edge) : fromP p.l m = p.l := by
  unfold fromP
  rw [List.filter_eq_self]
  intro x hx
  have := (h.each x hx).1.1
  exact decide_eq_true (by omega)
theorem fromP_up (l : List Pg) (m : Int) : lessP (fromP l m) m = fromP l (m + 1) := by
  unfold lessP fromP
  rw [List.filter_filter]
  congr 1
  funext x
  by_cases h : m + 1 ≤ x.at_
  · simp [h, show m ≤ x.at_ by omega, show x.at_ ≠ m by omega]
  · by_cases h2 : x.at_ = m
    · simp [h2, show ¬ m + 1 ≤ m by omega]
    · simp [h, h2, show ¬ m ≤ x.at_ by omega]
/-- the object, between two rounds of Trim -/
def Trm (G : Nat → Prop) (w0 : World) (b mb : Nat) (p : Ps) (w : World) (m : Int) : Prop := w.heap[b]? = some (.cells #[.int .i64 p.room, .int .i64 m, .map (some mb)] 149 (0, 0)) ∧ Tp w mb (fromP p.l m) ∧ Kept (fun k => ¬ G k) w0 w
theorem Trm.drew {G : Nat → Prop} {w0 w : World} {b mb : Nat} {p : Ps} {m : Int} (h : Trm G w0 b mb p w m) : Trm G w0 b mb p w.drew m := ⟨h.1, h.2.1.keep rfl, h.2.2.drew⟩
theorem Trm.next {G : Nat → Prop} {w0 w w2 : World} {b mb n : Nat} {p : Ps} {m : Int} {D : DataW Unit} (h : Trm G w0 b mb p w m) (hne : mb ≠ b) (hb : G b) (hmb : G mb) (hM : Mp D (fromP p.l m)) (hm : (Lit.int .i64 m).wf = true)
    (hown : w2.ownsMap Tryz.prog 212 sheetR mb n (D.del (klA m))) (ht : w.mapTurned w2 mb) : Trm G w0 b mb p (w2.setCell ⟨b, 1, none⟩ (.int .i64 (m + 1))) (m + 1) := by
  obtain ⟨h1, h2, h3⟩ := h
  have hg := ht.grown
  have e1 := (hg.block b (lt_of_block h1) (fun e => hne (Option.some.inj e).symm)).trans h1
  refine ⟨three_set1 e1 _, ?_, (h3.grown hg (fun k e => by cases e; exact fun hn => hn hmb)).setCell (p := ⟨b, 1, none⟩) (fun hn => hn hb) _⟩
  have h4 := Tp.of hown (hM.del hm)
  rw [fromP_up] at h4
  exact h4.keep (Below.heap_setCell _ _ _ _ hne)
theorem Trm.done {G : Nat → Prop} {w0 w : World} {b mb : Nat} {p : Ps} {m : Int} (h : Trm G w0 b mb p w m) (hne : mb ≠ b) (hb : G b) (hmb : G mb) (hG : ∀ k, G k → k < w0.heap.size) : Left PGm G w0 w b ⟨fromP p.l m, p.room, m⟩ :=
  ⟨G, ⟨mb, h.1, h.2.1, hne, hb, hmb, fun k hk => Nat.lt_of_lt_of_le (hG k hk) h.2.2.size⟩, h.2.2, fun k hk => .inl hk⟩
set_option maxHeartbeats 8000000 in
theorem ptrim_any (G : Nat → Prop) (w : World) (b : Nat) (p : Ps) (a : Int) (h : PGm G w b p) (hok : p.Ok) (ha : -9223372036854775808 ≤ a ∧ a ≤ 9223372036854775807) :
    Calls Tryz.prog 134 #[.pointer (some ⟨b, 0, none⟩), .int .i64 a] w fun e w' => e = .returned (.int .i64 (Ps.trimE a)) ∧ Left PGm G w w' b (p.trim a) := by
  by_cases h0 : a < 0
  · have HE := Lib.hid (show Ps.trimE a = 1 from if_pos (.inl h0))
    have HP := Lib.hid (show p.trim a = p from if_neg (by rw [HE.out]; decide))
    have HS := Lib.hid (left_same h)
    clear h hok ha
    go_enter Tryz.func134, Tryz.ntmps134
    go_wp2_with fail
    go_ret
    rw [HE.out, HP.out]
    exact ⟨rfl, HS.out⟩
  have h0' : 0 ≤ a := by omega
  by_cases h1 : 4096 < a
  · have HE := Lib.hid (show Ps.trimE a = 1 from if_pos (.inr h1))
    have HP := Lib.hid (show p.trim a = p from if_neg (by rw [HE.out]; decide))
    have HS := Lib.hid (left_same h)
    clear h hok h0 ha
    go_enter Tryz.func134, Tryz.ntmps134
    go_wp2_with fail
    go_ret
    rw [HE.out, HP.out]
    exact ⟨rfl, HS.out⟩
  have h1' : a ≤ 4096 := by omega
  have HE := Lib.hid (show Ps.trimE a = 0 from if_neg (by omega))
  have HT := Lib.hid (show p.trim a = ⟨fromP p.l (max p.edge a), p.room, max p.edge a⟩ from by unfold Ps.trim; rw [if_pos HE.out]; rfl)
  obtain ⟨mb, g1, g2, g3, g4, g5, g6⟩ := h
  have HM0 := Lib.hid (show Trm G w b mb p w p.edge from ⟨g1, by rw [fromP_self hok (Int.le_refl _)]; exact g2, Kept.refl _ _⟩)
  have hed := hok.edge
  have HED := Lib.hid hed
  have HN := Lib.hid g3
  have HG1 := Lib.hid g4
  have HG2 := Lib.hid g5
  have HG3 := Lib.hid g6
  clear hok h0 h1 g1 g2 g3 g4 g5 g6 hed ha
  go_enter Tryz.func134, Tryz.ntmps134
  go_wp2_with fail
  go_loopw [] (fun wr => ∃ m : Int, p.edge ≤ m ∧ m ≤ max p.edge a ∧ Hid (Trm G w b mb p wr m)) (fun wr => (4096 - (intOf ((wr.cell? ⟨b, 1, none⟩).getD undef))).toNat)
  case atStart => exact ⟨p.edge, Int.le_refl _, by omega, HM0⟩
  case round =>
    obtain ⟨m, hm0, hm1, HM⟩ := hrel
    obtain ⟨c0, c1, c2, f0, f1, f2⟩ := three_cells HM.out.1
    have hed := HED.out
    by_cases hlt : m < a
    · have hm2 : 0 ≤ m := by omega
      have hm3 : m ≤ 4096 := by omega
      have hwf : (Lit.int .i64 m).wf = true := WalkArith.wf_i64 (by omega)
      have HMd := Lib.hid HM.out.drew
      obtain ⟨D, hD, hMp⟩ := HMd.out.2.1
      have HD := Lib.hid hD
      have HKEY := Lib.hid (pspot_key m hwf)
      have HNX := Lib.hid (fun w2 n => @Trm.next G w wr.drew w2 b mb n p m D HMd.out HN.out HG1.out HG2.out hMp hwf)
      have HBL := Lib.hid (lt_of_block HMd.out.1)
      clear hD hMp hwf
      go_wp2_with fail
      go_still_tail 9, (by kernel_rfl)
      change wpList _ _ _ _ _ wr.drew
      go_wp2_with (at_delete; refine wpList_delete_own _ rfl _ _ 147 212 rfl 210 pspot_law Tryz.underlying147 sheetR mb _ D rfl HD.out _ _ rfl HKEY.out ?_; intro w1 hown1 hturn1; have HO1 := Lib.hid hown1; have HT1 := Lib.hid hturn1; have HE1 := Lib.hid ((hturn1.grown.block b HBL.out (fun e => HN.out (Option.some.inj e).symm)).trans HMd.out.1); obtain ⟨y0, y1, y2, z0, z1, z2⟩ := three_cells HE1.out; clear hown1 hturn1 c0 c1 c2 f0 f1 f2)
      go_roundw
      case rel => exact ⟨m + 1, by omega, by omega, Lib.hid (HNX.out _ _ HO1.out HT1.out)⟩
      case measure =>
        rw [cell_of (three_set1 HE1.out (.int .i64 (m + 1))) 1, cell_of HM.out.1 1]
        simp [intOf]
        omega
    · have hmx : m = max p.edge a := by omega
      have hge : a ≤ m := by omega
      have HF := Lib.hid (HM.out.done HN.out HG1.out HG2.out HG3.out)
      clear hlt
      go_wp2_with fail
      go_ret
      rw [HE.out, HT.out, ← hmx]
      exact ⟨rfl, HF.out⟩
theorem ptrim_nil (a : Int) (w : World) : Calls Tryz.prog 134 #[.pointer none, .int .i64 a] w fun e w' => e = .returned (.int .i64 1) ∧ w = w' := by
  go_enter Tryz.func134, Tryz.ntmps134
  go_wp2_with fail
  go_ret
  exact ⟨rfl, rfl⟩
end Go.Proofs.YtchhmfdalghgcaaGreat
namespace Go.Proofs.YtchhmfdalghgcaaGreat
open Go.RowKit Go.Maps
set_option maxRecDepth 20000
theorem unit_key_row : (143 : TypeId) < Tryz.prog.types.size := of_decide_eq_true (by kernel_rfl)
theorem unit_law : Keyed Tryz.prog 143 := Keyed.of_law (deep_law_laid laidOut (m := 2) (by omega) unit_key_row (by kernel_rfl) (by rw [Tryz.underlying143]))
/-- a unit as a key -/
def klU (u : Int) : Lit := .string (keyBytes [.int .i64 u])
theorem types_succ : ∃ n, Tryz.prog.types.size = n + 1 := ⟨Tryz.prog.types.size - 1, by have h := Nat.lt_of_le_of_lt (Nat.zero_le _) unit_key_row; exact (Nat.succ_pred_eq_of_pos h).symm⟩
theorem unit_key (u : Int) (hu : (Lit.int .i64 u).wf = true) : keyOf Tryz.prog 143 (.agg #[.int .i64 u]) = some (klU u) := by
  obtain ⟨n, hn⟩ := types_succ
  exact key_one Tryz.underlying143 (by kernel_rfl) (by rfl) rfl (by kernel_rfl) Tryz.underlying3 (by kernel_rfl) hn hu
theorem unit_inj (u v : Int) (h : (Value.agg #[Value.int .i64 u]) = .agg #[.int .i64 v]) : u = v := by simpa using h
theorem klU_inj {u v : Int} (hu : (Lit.int .i64 u).wf = true) (hv : (Lit.int .i64 v).wf = true) (h : klU u = klU v) : u = v :=
  unit_inj u v (unit_law.inj (unit_key u hu) (h ▸ unit_key v hv))
theorem klU_key {u : Int} (hu : (Lit.int .i64 u).wf = true) : WideAt.IsKeyLit (klU u) := unit_law.key (unit_key u hu)
/-- a place: in which chain, how far behind its beginning -/
def spotD (i j : Int) : DataW Unit := .agg [.lit (.int .i64 i), .lit (.int .i64 j)]
def spotR : Value → Option (DataW Unit × List MemPlace)
  | .agg a => match a.toList with
    | [.int .i64 i, .int .i64 j] => some (spotD i j, [])
    | _ => none
  | _ => none
theorem spotR_mk (i j : Int) : spotR (.agg #[.int .i64 i, .int .i64 j]) = some (spotD i j, []) := rfl
theorem spotR_inv {v : Value} {z : DataW Unit × List MemPlace} (h : spotR v = some z) : ∃ i j, v = .agg #[.int .i64 i, .int .i64 j] ∧ z = (spotD i j, []) := by
  unfold spotR at h
  split at h
  · next a =>
    split at h
    · next i j e =>
      cases h
      refine ⟨i, j, ?_, rfl⟩
      rw [← Array.toArray_toList (xs := a), e]
    · cases h
  · cases h
theorem spotD_inj {i j k l : Int} (h : spotD i j = spotD k l) : i = k ∧ j = l := by
  unfold spotD at h
  simpa using h
theorem zero_spot (w : World) : (zeroValue 141).run Tryz.prog w = .ok (.agg #[.int .i64 0, .int .i64 0]) w := by kernel_rfl
/-- each unit of S, and nothing else, leads to a place in L where it stands -/
structure Ms (L : List (List Int)) (D : DataW Unit) (S : List Int) : Prop where
  tidy : Tidy D
  hs : ∀ u, (Lit.int .i64 u).wf = true → Maps.has D (klU u) = decide (u ∈ S)
  size : Maps.size D = (insAll [] S).length
  spot : ∀ u ∈ S, ∃ (i j : Nat) (hi : i < L.length) (hj : j < L[i].length), L[i][j] = u ∧ ∀ zd, D.atKey (klU u) zd = spotD i j
theorem Ms.nil (L : List (List Int)) : Ms L (.map []) [] := ⟨tidy_empty, fun _ _ => rfl, rfl, fun u hu => by cases hu⟩
theorem Ms.put {L : List (List Int)} {D : DataW Unit} {S : List Int} (h : Ms L D S) (hS : ∀ u ∈ S, (Lit.int .i64 u).wf = true) {i j : Nat} (hi : i < L.length) (hj : j < L[i].length) (hu : (Lit.int .i64 L[i][j]).wf = true) :
    Ms L (D.put (klU L[i][j]) (spotD i j)) (S ++ [L[i][j]]) := by
  have hk := klU_key hu
  refine ⟨h.tidy.put hk _, fun v hv => ?_, ?_, fun v hv => ?_⟩
  · by_cases e : v = L[i][j]
    · subst e
      rw [has_put_same h.tidy.isMap hk]
      exact (decide_eq_true (by simp)).symm
    · rw [has_put_other (fun e2 => e (klU_inj hv hu e2)), h.hs v hv]
      simp [e]
  · rw [size_put h.tidy, h.hs _ hu, h.size, insAll_snoc, insU_length _ _ (insAll_rises _ _ List.Pairwise.nil)]
    by_cases e : L[i][j] ∈ S
    · simp [e, insAll_mem]
    · simp [e, insAll_mem]
  · by_cases e : v = L[i][j]
    · subst e
      exact ⟨i, j, hi, hj, rfl, fun zd => atKey_put_same h.tidy.isMap hk _ _⟩
    · have hv' : v ∈ S := by
        rcases List.mem_append.1 hv with h1 | h1
        · exact h1
        · exact absurd (List.mem_singleton.1 h1) e
      obtain ⟨a, b, ha, hb, e1, e2⟩ := h.spot v hv'
      exact ⟨a, b, ha, hb, e1, fun zd => by rw [atKey_put_other (fun e3 => e (klU_inj (hS v hv') hu e3))]; exact e2 zd⟩
/-- the map at block b leads each unit of S to its place -/
def Mt (w : World) (b : Nat) (L : List (List Int)) (S : List Int) : Prop := ∃ D, w.ownsMap Tryz.prog 143 spotR b S.length D ∧ Ms L D S
theorem Mt.made (w : World) (L : List (List Int)) : Mt (w.alloc (.map #[] 0)) w.heap.size L [] := ⟨_, World.ownsMap_made _ _ _ _, Ms.nil L⟩
theorem Mt.below {w w' : World} {b : Nat} {L : List (List Int)} {S : List Int} (h : Mt w b L S) (hb : Below w.heap.size w w') : Mt w' b L S := by
  obtain ⟨D, ⟨es, clock, h1, h2⟩, h3⟩ := h
  exact ⟨D, ⟨es, clock, below_heap hb h1, h2⟩, h3⟩
theorem Mt.lt {w : World} {b : Nat} {L : List (List Int)} {S : List Int} (h : Mt w b L S) : b < w.heap.size := by
  obtain ⟨D, h1, _⟩ := h
  exact h1.lt
/-- in the map that 'met' returns, all units stand -/
theorem preU_wf2 {w : World} {ao : Option Addr} {L : List (List Int)} (h : CL w ao L) : ∀ u ∈ L.flatten, (Lit.int .i64 u).wf = true := by
  have := preU_wf h L.length 0
  rwa [preU_all] at this
set_option maxHeartbeats 4000000 in
theorem met_any (ep : Int) (ao : Option Addr) (cap : Nat) (L : List (List Int)) (w : World) (h : CL w ao L) (hl : L.length ≤ 255 ∧ ∀ c ∈ L, c.length ≤ 255) :
    Calls Tryz.prog 53 #[.agg #[.int .i64 ep, .slice ao L.length cap]] w fun e w' => ∃ b, e = .returned (.map (some b)) ∧ w.heap.size ≤ b ∧ Mt w' b L L.flatten ∧ Below w.heap.size w w' := by
  have HB0 := Lib.hid ((Below.refl w.heap.size w).alloc (Nat.le_refl _) (.cells #[.int .i64 ep, .slice ao L.length cap] 29))
  have hl' : (L.length : Int) ≤ 255 := by have := hl.1; omega
  have HT := Lib.hid h
  have HM := Lib.hid hl
  have hmm := @run_makeMap Tryz.prog
  clear h hl
  go_enter Tryz.func53, Tryz.ntmps53
  go_wp2_with fail
  go_loopw [12] (fun i wr => ∃ n : Nat, i = .int .i64 n ∧ n ≤ L.length ∧ Hid (Mt wr (w.heap.size + 1) L (preU L n 0)) ∧ Hid (Below (w.heap.size + 1) (w.alloc (.cells #[.int .i64 ep, .slice ao L.length cap] 29)) wr)) (fun i _ => L.length - (intOf i).toNat)
  case atStart => exact ⟨0, rfl, Nat.zero_le _, Lib.hid (by rw [preU_zero]; have h := Mt.made (w.alloc (.cells #[.int .i64 ep, .slice ao L.length cap] 29)) L; simpa using h), Lib.hid ((Below.refl _ _).alloc (by simp) _)⟩
  case round =>
    obtain ⟨n, rfl, hn, HO, HB⟩ := hrel
    by_cases hlt : n < L.length
    · have HWB := Lib.hid (HB0.out.trans (HB.out.mono (by omega)))
      obtain ⟨bk, off, ai, ci, hao, c0w, hN⟩ := HT.out n hlt
      subst hao
      have c0 : wr.cell? ⟨bk, off + n, none⟩ = some (.slice ai L[n].length ci) := cellB HWB.out (block_lt_of_cell c0w) c0w
      have HNN := Lib.hid hN
      have k0 : (n : Int) < (L.length : Int) := by omega
      have m0 := HM.out.2 _ (List.getElem_mem hlt)
      have m0' : (L[n].length : Int) ≤ 255 := by omega
      clear c0w hN
      go_wp2_with fail
      go_loopw [19] (fun j wq => ∃ k : Nat, j = .int .i64 k ∧ k ≤ L[n].length ∧ Hid (Mt wq (w.heap.size + 1) L (preU L n k)) ∧ Hid (Below (w.heap.size + 1) (w.alloc (.cells #[.int .i64 ep, .slice (some ⟨bk, off, none⟩) L.length cap] 29)) wq)) (fun j _ => L[n].length - (intOf j).toNat)
      case atStart => exact ⟨0, rfl, Nat.zero_le _, HO, HB⟩
      case round =>
        obtain ⟨k, rfl, hk, HO2, HB2⟩ := hrel
        clear c0
        have HWQ := Lib.hid (HB0.out.trans (HB2.out.mono (by omega)))
        by_cases hkt : k < L[n].length
        · obtain ⟨b5, o5, hai, c5⟩ := (HNN.out.below HWQ.out).at k hkt
          have hwf := HNN.out.wf _ (List.getElem_mem hkt)
          subst hai
          have k5 : (k : Int) < (L[n].length : Int) := by omega
          obtain ⟨D, hD, hMs⟩ := HO2.out
          have HD := Lib.hid hD
          have HKEY := Lib.hid (unit_key _ hwf)
          have HPUT := Lib.hid (hMs.put (preU_wf HT.out n k) hlt hkt hwf)
          have HPS := Lib.hid (preU_succ hlt hkt)
          have HCNT := Lib.hid (show (preU L n k).length < maxLen from by have := preU_len (k := k) HM.out hlt; unfold maxLen; omega)
          have hB : w.heap.size + 1 ≤ wr.heap.size := by have := HB2.out.size; simpa using this
          clear hwf hD hMs
          rw [← HPS.out] at HPUT
          generalize L[n][k] = u at *
          go_wp2_with (at_mapUpdate; refine wpList_mapUpdate_own _ rfl _ _ _ 112 rfl 143 141 unit_law Tryz.underlying112 spotR (w.heap.size + 1) _ _ rfl HD.out HCNT.out _ _ _ rfl rfl HKEY.out (spotD n k) [] (spotR_mk _ _) ?_; intro w1 hown1 hgrow1; have HO3 := Lib.hid hown1; have HB3 := Lib.hid (HB2.out.grown hgrow1 hB (fun k e => by cases e; exact Nat.le_refl _)); clear hown1 hgrow1)
          exact ⟨⟨k + 1, by go_num, by omega, Lib.hid ⟨_, by rw [show (preU L n (k + 1)).length = (preU L n k).length + 1 from by rw [HPS.out, List.length_append]; rfl]; exact HO3.out, HPUT.out⟩, HB3⟩, by simp [intOf]; omega⟩
        · obtain rfl : k = L[n].length := by omega
          have HPC := Lib.hid (preU_chain hlt)
          rw [HPC.out] at HO2
          go_wp2_with fail
          go_roundw
          case rel => exact ⟨n + 1, by go_num, by omega, HO2, HB2⟩
          case measure => simp [intOf]; omega
    · obtain rfl : n = L.length := by omega
      have HWB := Lib.hid (HB0.out.trans (HB.out.mono (by omega)))
      rw [preU_all] at HO
      go_wp2_with fail
      go_ret
      exact ⟨_, rfl, by omega, HO.out, HWB.out⟩
end Go.Proofs.YtchhmfdalghgcaaGreat
namespace Go.Proofs.YtchhmfdalghgcaaGreat
set_option linter.unusedVariables false
open Go.RowKit
set_option maxRecDepth 20000
theorem on_nil_ask (w : World) (a : Ak) : Calls Tryz.prog 40 #[.pointer none, askV a] w fun e w' => e = .returned (ansV (anP 1 0 noT 0) none 0) ∧ Below w.heap.size w w' := by
  obtain ⟨k, un, ep, pg, sz, n, s, pe, L, ao, cap⟩ := a
  have HW := Lib.hid (two_blocks w #[.int .i64 k, .int .i64 un, .int .i64 ep, .int .i64 pg, .int .i64 sz, .int .i64 n, .string s, .int .i64 pe, .slice ao L.length cap] #[.int .i64 0, .int .i64 0, .string ⟨#[]⟩, .int .i64 0, .slice none 0 0, .int .i64 0, .int .i64 0, .int .i64 0] 37 33)
  have HB := Lib.hid (show Below w.heap.size w ((w.alloc (.cells #[.int .i64 k, .int .i64 un, .int .i64 ep, .int .i64 pg, .int .i64 sz, .int .i64 n, .string s, .int .i64 pe, .slice ao L.length cap] 37)).alloc (.cells #[.int .i64 0, .int .i64 0, .string ⟨#[]⟩, .int .i64 0, .slice none 0 0, .int .i64 0, .int .i64 0, .int .i64 0] 33)) from (below_new _ _).alloc (by simp) _)
  show Calls _ _ #[.pointer none, .agg #[.int .i64 k, .int .i64 un, .int .i64 ep, .int .i64 pg, .int .i64 sz, .int .i64 n, .string s, .int .i64 pe, .slice ao L.length cap]] w _
  go_enter Tryz.func40, Tryz.ntmps40
  go_wp2_with (go_at_call 56; refine (ocoded_any _ _).mono ?_; rintro e w2 ⟨rfl, hb2⟩; have HX := Lib.hid (below_heap hb2 HW.out.2); obtain ⟨⟨x0, x1, x2, x3, x4, x5, x6, x7⟩, f0, f1, f2, f3, f4, f5, f6, f7⟩ := eight_cells HX.out; have hx := lt_of_block HX.out; have HB2 := Lib.hid (HB.out.trans (hb2.mono HB.out.size)); clear hb2)
  exact ans_ret (x := anP 1 0 noT 0) (ao := none) (cap := 0) rfl (eight_set7 (eight_set6 (eight_set5 (eight_set4 (eight_set3 (eight_set2 (eight_set1 (eight_set0 HX.out _) _) _) _) _) _) _) _) rfl rfl ⟨rfl, ((((((((HB2.out.setCell (by simp) _).setCell (by simp) _).setCell (by simp) _).setCell (by simp) _).setCell (by simp) _).setCell (by simp) _).setCell (by simp) _).setCell (by simp) _)⟩
end Go.Proofs.YtchhmfdalghgcaaGreat
