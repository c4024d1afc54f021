/- What the document's own Units returns. Conditions: the projection lies where the call was told, and is not too large. -/
import Derived.Test.YtchhmfdalghgcaaGreatG09a
import Derived.Deep.RegionHeld3
import Derived.Deep.RegionHeldLaw
set_option linter.unusedVariables false
namespace Go.Proofs.YtchhmfdalghgcaaGreat
set_option linter.unusedVariables false
open Go.RowKit
set_option maxRecDepth 20000

theorem flat_le (L : List (List Int)) (m : Nat) (h : ∀ c ∈ L, c.length ≤ m) : L.flatten.length ≤ m * L.length := by
  induction L with
  | nil => simp
  | cons c L ih =>
    have h1 := h c (by simp)
    have h2 := ih (fun d hd => h d (by simp [hd]))
    rw [List.flatten_cons, List.length_append, List.length_cons, Nat.mul_succ]
    omega
/-- the units so far: of i chains, and of k units of the next -/
def uptoU (L : List (List Int)) (i k : Nat) : List Int := insAll [] ((L.take i).flatten ++ (L.getD i []).take k)
theorem uptoU_len (L : List (List Int)) (i k : Nat) (hl : L.length ≤ 255 ∧ ∀ c ∈ L, c.length ≤ 3000) (hi : i < L.length) (hk : k ≤ L[i].length) : (uptoU L i k).length ≤ 800000 := by
  have h1 := (insAll_length [] ((L.take i).flatten ++ (L.getD i []).take k) List.Pairwise.nil).1
  have h2 := flat_le (L.take i) 3000 (fun c hc => hl.2 c (List.mem_of_mem_take hc))
  have h3 := hl.2 L[i] (List.getElem_mem hi)
  rw [List.length_append, List.length_nil] at h1
  have h4 : ((L.getD i []).take k).length ≤ k := List.length_take_le _ _
  have h5 : (L.take i).length ≤ 255 := by rw [List.length_take]; omega
  have h6 : 3000 * (L.take i).length ≤ 3000 * 255 := Nat.mul_le_mul_left _ h5
  unfold uptoU
  omega
theorem uptoU_next (L : List (List Int)) (i k : Nat) (hi : i < L.length) (hk : k < L[i].length) : uptoU L i (k + 1) = insU L[i][k] (uptoU L i k) := by
  unfold uptoU
  have e : L.getD i [] = L[i] := by simp [hi]
  rw [e, List.take_succ_eq_append_getElem hk, ← List.append_assoc, insAll_snoc]
theorem uptoU_chain (L : List (List Int)) (i : Nat) (hi : i < L.length) : uptoU L i L[i].length = uptoU L (i + 1) 0 := by
  unfold uptoU
  have e : L.getD i [] = L[i] := by simp [hi]
  rw [e, List.take_of_length_le (Nat.le_refl _), List.take_zero, List.append_nil, List.take_succ_eq_append_getElem hi, List.flatten_append]
  simp
theorem uptoU_all (L : List (List Int)) : uptoU L L.length 0 = unitsR L := by
  unfold uptoU unitsR
  rw [List.take_zero, List.append_nil, List.take_of_length_le (Nat.le_refl _)]
set_option maxHeartbeats 4000000 in
theorem refUnitsO_any (ep : Int) (ao : Option Addr) (cap : Nat) (L : List (List Int)) (w : World) (h : CL w ao L) (hl : L.length ≤ 255 ∧ ∀ c ∈ L, c.length ≤ 3000) :
    Calls Tryz.prog 36 #[.agg #[.int .i64 ep, .slice ao L.length cap]] w fun e w' => ∃ v, e = .returned v ∧ OI w' w.heap.size v (unitsR L) ∧ Below w.heap.size w w' := by
  have HB0 := Lib.hid ((Below.refl w.heap.size w).alloc (Nat.le_refl _) (.cells #[.int .i64 ep, .slice ao L.length cap] 29))
  have HC := Lib.hid h
  have hl' : (L.length : Int) ≤ 255 := by omega
  have HM := Lib.hid hl
  clear h hl
  go_enter Tryz.func36, Tryz.ntmps36
  go_wp2_with fail
  go_loopw [3, 4] (fun v i wr => ∃ n : Nat, i = .int .i64 n ∧ n ≤ L.length ∧ OI wr (w.heap.size + 1) v (uptoU L n 0) ∧ Below (w.heap.size + 1) (w.alloc (.cells #[.int .i64 ep, .slice ao L.length cap] 29)) wr) (fun _ i _ => L.length - (intOf i).toNat)
  case atStart => exact ⟨0, rfl, Nat.zero_le _, OI.nil _ _, Below.refl _ _⟩
  case round =>
    obtain ⟨n, rfl, hn, hO, hb⟩ := hrel
    have b1 : wr.cell? ⟨w.heap.size, 1, none⟩ = some (.slice ao L.length cap) := bcell0 hb (by simp) (by omega)
    have HW := Lib.hid (HB0.out.trans (hb.mono (by omega)))
    have hsz : w.heap.size + 1 ≤ wr.heap.size := by have := hb.size; simpa using this
    by_cases hlt : n < L.length
    · obtain ⟨bk, off, ai, ci, hao, c0, _⟩ := (HC.out.below HW.out) n hlt
      subst hao
      have HO := Lib.hid hO
      have HB := Lib.hid hb
      clear hO hb
      go_wp2_with fail
      go_loopw [3, 5] (fun v i wq => ∃ k : Nat, i = .int .i64 k ∧ k ≤ L[n].length ∧ OI wq (w.heap.size + 1) v (uptoU L n k) ∧ Below (w.heap.size + 1) (w.alloc (.cells #[.int .i64 ep, .slice (some ⟨bk, off, none⟩) L.length cap] 29)) wq) (fun _ i _ => L[n].length - (intOf i).toNat)
      case atStart => exact ⟨0, rfl, Nat.zero_le _, HO.out, HB.out⟩
      case round =>
        obtain ⟨k, rfl, hk, hO2, hb2⟩ := hrel
        rename_i wr0 _ _ _ _ _ _ _
        skip
        have b1' : wr.cell? ⟨w.heap.size, 1, none⟩ = some (.slice (some ⟨bk, off, none⟩) L.length cap) := bcell0 hb2 (by simp) (by omega)
        have HW2 := Lib.hid (HB0.out.trans (hb2.mono (by omega)))
        have hsz2 : w.heap.size + 1 ≤ wr.heap.size := by have := hb2.size; simpa using this
        have hm := HM.out.2 L[n] (List.getElem_mem hlt)
        obtain ⟨bk', off', ai', ci', hao', c0', hN⟩ := (HC.out.below HW2.out) n hlt
        cases hao'
        by_cases hkt : k < L[n].length
        · obtain ⟨b5, o5, hai, c5⟩ := hN.at k hkt
          subst hai
          have HR := Lib.hid (hN.rng k hkt)
          have HX := Lib.hid (uptoU_next L n k hlt hkt)
          have hD := uptoU_len L n k HM.out hlt hk
          generalize uptoU L n k = D at *
          have HWF := Lib.hid (hN.wf _ (List.getElem_mem hkt))
          generalize L[n][k] = u at *
          obtain ⟨lo, lc, hv, hND, hlo, _⟩ := hO2.form
          subst hv
          have HND := Lib.hid hND
          have HO2 := Lib.hid hO2
          have HB2 := Lib.hid hb2
          clear hO2 hb2 hND hN b1 c0
          have hD' : (D.length : Int) ≤ 800000 := by omega
          go_wp2_with fail
          go_loop [7] (fun i => ∃ j : Nat, i = .int .i64 j ∧ j ≤ D.length ∧ Hid (∀ i (h : i < D.length), i < j → D[i] < u)) (fun i => D.length - (intOf i).toNat)
          case atStart => exact ⟨0, rfl, Nat.zero_le _, Lib.hid (fun i _ hi => absurd hi (Nat.not_lt_zero i))⟩
          case round =>
            obtain ⟨j, rfl, hj, HJ⟩ := hrel
            by_cases hjt : j < D.length
            · obtain ⟨b6, o6, hlo', c6⟩ := HND.out.at j hjt
              subst hlo'
              by_cases hlt2 : D[j] < u
              · have HJ2 := Lib.hid (show ∀ i (h : i < D.length), i < j + 1 → D[i] < u from fun i h hi => by
                  by_cases e : i = j
                  · subst e; exact hlt2
                  · exact HJ.out i h (by omega))
                generalize D[j] = x at *
                go_wp2_with fail
                go_round
                case rel => exact ⟨j + 1, by go_num, by omega, HJ2⟩
                case measure => simp [intOf]; omega
              · have HI := Lib.hid (insU_at u D j hj HJ.out (fun _ => hlt2))
                by_cases heq : D[j] = u
                · have HDD := Lib.hid (show uptoU L n (k + 1) = D from by rw [HX.out, HI.out, if_pos ⟨hjt, heq⟩])
                  have d1 : (D[j] != u) = false := bne_eq_false_iff_eq.2 heq
                  have d2 : ((j : Int) == (D.length : Int)) = false := beq_eq_false_iff_ne.2 (by omega)
                  have d3 : (j == D.length) = false := beq_eq_false_iff_ne.2 (by omega)
                  generalize hx : D[j] = x at *
                  have HXX := Lib.hid hx
                  have HEQ := Lib.hid heq
                  clear hx heq
                  go_wp2_with fail
                  go_roundw
                  case rel => exact ⟨k + 1, by go_num, by omega, by rw [HDD.out]; exact HO2.out, HB2.out⟩
                  case measure => simp [intOf]; omega
                · have HDD := Lib.hid (show uptoU L n (k + 1) = D.take j ++ u :: D.drop j from by rw [HX.out, HI.out, if_neg (by rintro ⟨_, h⟩; exact heq h)])
                  have d1 : (D[j] != u) = true := bne_iff_ne.2 heq
                  have d2 : ((j : Int) == (D.length : Int)) = false := beq_eq_false_iff_ne.2 (by omega)
                  have d3 : (j == D.length) = false := beq_eq_false_iff_ne.2 (by omega)
                  generalize hx : D[j] = x at *
                  have HXX := Lib.hid hx
                  have HEQ := Lib.hid heq
                  have hlc : j < lc := by have := HND.out.2.2; omega
                  have HS2 := Lib.hid (fun (W : World) (hb : Below wr.heap.size wr W) => show NLI W (some ⟨b6, o6, none⟩) lc (D.take j) from (HND.out.take j (by omega)).below hb)
                  have HS3 := Lib.hid (fun (W : World) (hb : Below wr.heap.size wr W) => show NLI W (some ⟨b6, o6 + j, none⟩) (lc - j) (D.drop j) from (HND.out.drop j).below hb)
                  have hl1 : (D.take j).length = j := by rw [List.length_take]; omega
                  have HL1 := Lib.hid hl1
                  have HL2 := Lib.hid (show (D.drop j).length = D.length - j from List.length_drop)
                  have i1 : (0 : Int) ≤ (j : Int) := by omega
                  have i2 : (j : Int) ≤ (lc : Int) := by omega
                  have i3 : (j : Int) ≤ (D.length : Int) := by omega
                  have i4 : (D.length : Int) ≤ (lc : Int) := by have := HND.out.2.2; omega
                  have i5 : ¬ lc = j := by omega
                  clear hx heq hl1
                  go_wp2_with fail
                  have HFa := Lib.hid (show OI (wr.alloc (.cells #[] 3)).drew wr.heap.size (.slice (some ⟨wr.heap.size, 0, none⟩) 0 0) [] from (OI.made wr (Nat.le_refl _)).drew)
                  have HFb := Lib.hid (show OI ((wr.alloc (.cells #[] 3)).alloc (.cells #[.int .i64 u] 3)).drew wr.heap.size (.slice (some ⟨wr.heap.size, 0, none⟩) 0 0) [] from ((OI.made wr (Nat.le_refl _)).alloc _).drew)
                  have HFc := Lib.hid (show OI ((wr.alloc (.cells #[.int .i64 u] 3)).alloc (.cells #[] 3)).drew wr.heap.size (.slice (some ⟨wr.heap.size + 1, 0, none⟩) 0 0) [] from by have := (OI.made (wr.alloc (.cells #[.int .i64 u] 3)) (B := wr.heap.size) (by simp)).drew; simpa using this)
                  have HUb := Lib.hid (show NLI ((wr.alloc (.cells #[] 3)).alloc (.cells #[.int .i64 u] 3)).drew (some ⟨wr.heap.size + 1, 0, none⟩) 1 [u] from by have := (NLI.made (wr.alloc (.cells #[] 3)) u HWF.out).drew; simpa using this)
                  have HUc := Lib.hid (show NLI ((wr.alloc (.cells #[.int .i64 u] 3)).alloc (.cells #[] 3)).drew (some ⟨wr.heap.size, 0, none⟩) 1 [u] from ((NLI.made wr u HWF.out).alloc _).drew)
                  have HBa := Lib.hid (show Below wr.heap.size wr (wr.alloc (.cells #[] 3)).drew from ((Below.refl _ _).alloc (Nat.le_refl _) _).drew)
                  have HBb := Lib.hid (show Below wr.heap.size wr ((wr.alloc (.cells #[] 3)).alloc (.cells #[.int .i64 u] 3)).drew from (((Below.refl _ _).alloc (Nat.le_refl _) _).alloc (by simp) _).drew)
                  have HBc := Lib.hid (show Below wr.heap.size wr ((wr.alloc (.cells #[.int .i64 u] 3)).alloc (.cells #[] 3)).drew from (((Below.refl _ _).alloc (Nat.le_refl _) _).alloc (by simp) _).drew)
                  go_region_held3 (fun W => Below wr.heap.size wr W) (first | assumption | exact HBa.out | exact HBb.out | exact HBc.out | exact (Below.refl _ _).drew | exact Below.alloc (by assumption) (Below.size (by assumption)) _ | exact ((Below.refl _ _).alloc (Nat.le_refl _) _).drew) (first | (refine step_app_ints rfl (.tmp 59) (.tmp 62) rfl (B := wr.heap.size) (v := .slice (some ⟨wr.heap.size, 0, none⟩) 0 0) (D := []) rfl HFa.out (ao := some ⟨b6, o6, none⟩) (cap := lc) (l := D.take j) (m := j) HL1.out rfl (HS2.out _ HBa.out) (by simp; omega) HBa.out.size ?_; intro v1 w1 hI hg _; rw [List.nil_append] at hI; have hb1 := HBa.out.grown hg HBa.out.size (fun k e => by cases e; first | exact Nat.le_refl _ | exact Nat.le_succ _); have HI1 := Lib.hid hI; clear hI hg) | (refine step_app_ints rfl (.tmp 59) (.tmp 62) rfl (B := wr.heap.size) (v := .slice (some ⟨wr.heap.size, 0, none⟩) 0 0) (D := []) rfl HFb.out (ao := some ⟨b6, o6, none⟩) (cap := lc) (l := D.take j) (m := j) HL1.out rfl (HS2.out _ HBb.out) (by simp; omega) HBb.out.size ?_; intro v1 w1 hI hg _; rw [List.nil_append] at hI; have hb1 := HBb.out.grown hg HBb.out.size (fun k e => by cases e; first | exact Nat.le_refl _ | exact Nat.le_succ _); have HI1 := Lib.hid hI; have HU1 := Lib.hid (HUb.out.grown hg (fun a e => by cases e; intro e2; have e3 := Option.some.inj e2; simp at e3)); clear hI hg) | (refine step_app_ints rfl (.tmp 59) (.tmp 62) rfl (B := wr.heap.size) (v := .slice (some ⟨wr.heap.size + 1, 0, none⟩) 0 0) (D := []) rfl HFc.out (ao := some ⟨b6, o6, none⟩) (cap := lc) (l := D.take j) (m := j) HL1.out rfl (HS2.out _ HBc.out) (by simp; omega) HBc.out.size ?_; intro v1 w1 hI hg _; rw [List.nil_append] at hI; have hb1 := HBc.out.grown hg HBc.out.size (fun k e => by cases e; first | exact Nat.le_refl _ | exact Nat.le_succ _); have HI1 := Lib.hid hI; have HU1 := Lib.hid (HUc.out.grown hg (fun a e => by cases e; intro e2; have e3 := Option.some.inj e2; simp at e3)); clear hI hg) | (refine step_app_ints rfl (.tmp 63) (.tmp 65) rfl (B := wr.heap.size) (D := D.take j) rfl (HI1.out.alloc _) (ao := some ⟨w1.heap.size, 0, none⟩) (cap := 1) (l := [u]) (m := 1) rfl rfl (NLI.made w1 u HWF.out) (by rw [HL1.out]; simp; omega) (by have := hb1.size; simp; omega) ?_; intro v2 w2 hI hg _; have hb2 := (hb1.alloc hb1.size _).grown hg (by have := hb1.size; simp; omega) (fun k e => (HI1.out.1.lt k e).1); have HI2 := Lib.hid hI; clear hI hg) | (refine step_app_ints rfl (.tmp 63) (.tmp 65) rfl (B := wr.heap.size) (D := D.take j) rfl HI1.out (ao := some ⟨_, 0, none⟩) (cap := 1) (l := [u]) (m := 1) rfl rfl HU1.out (by rw [HL1.out]; simp; omega) hb1.size ?_; intro v2 w2 hI hg _; have hb2 := hb1.grown hg hb1.size (fun k e => (HI1.out.1.lt k e).1); have HI2 := Lib.hid hI; clear hI hg) | (refine step_app_ints rfl (.tmp 66) (.tmp 69) rfl (B := wr.heap.size) (D := D.take j ++ [u]) rfl HI2.out (ao := some ⟨b6, o6 + j, none⟩) (cap := lc - j) (l := D.drop j) (m := D.length - j) HL2.out rfl (HS3.out _ hb2) (by rw [List.length_append, HL1.out, HL2.out]; simp; omega) hb2.size ?_; intro v3 w3 hI hg _; have hb3 := hb2.grown hg hb2.size (fun k e => (HI2.out.1.lt k e).1); rw [List.append_assoc] at hI; have HI3 := Lib.hid hI; clear hI hg))
                  all_goals
                    go_wp2_with fail
                    go_roundw
                    case rel => exact ⟨k + 1, by go_num, by omega, by rw [HDD.out]; exact HI3.out.lower hsz2, HB2.out.trans (hb3.mono hsz2)⟩
                    case measure => simp [intOf]; omega
            · have HI := Lib.hid (insU_at u D j hj HJ.out (fun h => absurd h hjt))
              have HDD := Lib.hid (show uptoU L n (k + 1) = D.take j ++ u :: D.drop j from by rw [HX.out, HI.out, if_neg (by rintro ⟨h, _⟩; exact hjt h)])
              have d2 : ((j : Int) == (D.length : Int)) = true := beq_iff_eq.2 (by omega)
              have d3 : (j == D.length) = true := beq_iff_eq.2 (by omega)
              have hlc := HND.out.2.2
              have hge : D.length ≤ j := by omega
              have hge' : (D.length : Int) ≤ (j : Int) := by omega
              have hnil : D.drop j = [] := List.drop_of_length_le hge
              have HNIL := Lib.hid hnil
              clear hnil hjt
              rcases HO2.out.form2 with hlo0 | ⟨g, hlo0⟩
              · subst hlo0
                have HS2 := Lib.hid (fun (W : World) (hb : Below wr.heap.size wr W) => show NLI W none lc (D.take j) from (HND.out.take j hj).below hb)
                have HS3 := Lib.hid (fun (W : World) (hb : Below wr.heap.size wr W) => show NLI W none (lc - j) (D.drop j) from by rw [HNIL.out]; exact ⟨NL.nil _ _, fun _ => by have := HND.out.of_none.2; omega, Nat.zero_le _⟩)
                have hl1 : (D.take j).length = j := by rw [List.length_take]; omega
                have HL1 := Lib.hid hl1
                have HL2 := Lib.hid (show (D.drop j).length = 0 from by rw [HNIL.out]; rfl)
                have i1 : (0 : Int) ≤ (j : Int) := by omega
                have i2 : (j : Int) ≤ (lc : Int) := by omega
                have i3 : (j : Int) ≤ (D.length : Int) := by omega
                have i4 : (D.length : Int) ≤ (lc : Int) := by omega
                clear hl1
                go_wp2_with fail
                have HFa := Lib.hid (show OI (wr.alloc (.cells #[] 3)).drew wr.heap.size (.slice (some ⟨wr.heap.size, 0, none⟩) 0 0) [] from (OI.made wr (Nat.le_refl _)).drew)
                have HFb := Lib.hid (show OI ((wr.alloc (.cells #[] 3)).alloc (.cells #[.int .i64 u] 3)).drew wr.heap.size (.slice (some ⟨wr.heap.size, 0, none⟩) 0 0) [] from ((OI.made wr (Nat.le_refl _)).alloc _).drew)
                have HFc := Lib.hid (show OI ((wr.alloc (.cells #[.int .i64 u] 3)).alloc (.cells #[] 3)).drew wr.heap.size (.slice (some ⟨wr.heap.size + 1, 0, none⟩) 0 0) [] from by have := (OI.made (wr.alloc (.cells #[.int .i64 u] 3)) (B := wr.heap.size) (by simp)).drew; simpa using this)
                have HUb := Lib.hid (show NLI ((wr.alloc (.cells #[] 3)).alloc (.cells #[.int .i64 u] 3)).drew (some ⟨wr.heap.size + 1, 0, none⟩) 1 [u] from by have := (NLI.made (wr.alloc (.cells #[] 3)) u HWF.out).drew; simpa using this)
                have HUc := Lib.hid (show NLI ((wr.alloc (.cells #[.int .i64 u] 3)).alloc (.cells #[] 3)).drew (some ⟨wr.heap.size, 0, none⟩) 1 [u] from ((NLI.made wr u HWF.out).alloc _).drew)
                have HBa := Lib.hid (show Below wr.heap.size wr (wr.alloc (.cells #[] 3)).drew from ((Below.refl _ _).alloc (Nat.le_refl _) _).drew)
                have HBb := Lib.hid (show Below wr.heap.size wr ((wr.alloc (.cells #[] 3)).alloc (.cells #[.int .i64 u] 3)).drew from (((Below.refl _ _).alloc (Nat.le_refl _) _).alloc (by simp) _).drew)
                have HBc := Lib.hid (show Below wr.heap.size wr ((wr.alloc (.cells #[.int .i64 u] 3)).alloc (.cells #[] 3)).drew from (((Below.refl _ _).alloc (Nat.le_refl _) _).alloc (by simp) _).drew)
                go_region_held3 (fun W => Below wr.heap.size wr W) (first | assumption | exact HBa.out | exact HBb.out | exact HBc.out | exact (Below.refl _ _).drew | exact Below.alloc (by assumption) (Below.size (by assumption)) _ | exact ((Below.refl _ _).alloc (Nat.le_refl _) _).drew) (first | (refine step_app_ints rfl (.tmp 59) (.tmp 62) rfl (B := wr.heap.size) (v := .slice (some ⟨wr.heap.size, 0, none⟩) 0 0) (D := []) rfl HFa.out (ao := none) (cap := lc) (l := D.take j) (m := j) HL1.out rfl (HS2.out _ HBa.out) (by simp; omega) HBa.out.size ?_; intro v1 w1 hI hg _; rw [List.nil_append] at hI; have hb1 := HBa.out.grown hg HBa.out.size (fun k e => by cases e; first | exact Nat.le_refl _ | exact Nat.le_succ _); have HI1 := Lib.hid hI; clear hI hg) | (refine step_app_ints rfl (.tmp 59) (.tmp 62) rfl (B := wr.heap.size) (v := .slice (some ⟨wr.heap.size, 0, none⟩) 0 0) (D := []) rfl HFb.out (ao := none) (cap := lc) (l := D.take j) (m := j) HL1.out rfl (HS2.out _ HBb.out) (by simp; omega) HBb.out.size ?_; intro v1 w1 hI hg _; rw [List.nil_append] at hI; have hb1 := HBb.out.grown hg HBb.out.size (fun k e => by cases e; first | exact Nat.le_refl _ | exact Nat.le_succ _); have HI1 := Lib.hid hI; have HU1 := Lib.hid (HUb.out.grown hg (fun a e => by cases e; intro e2; have e3 := Option.some.inj e2; simp at e3)); clear hI hg) | (refine step_app_ints rfl (.tmp 59) (.tmp 62) rfl (B := wr.heap.size) (v := .slice (some ⟨wr.heap.size + 1, 0, none⟩) 0 0) (D := []) rfl HFc.out (ao := none) (cap := lc) (l := D.take j) (m := j) HL1.out rfl (HS2.out _ HBc.out) (by simp; omega) HBc.out.size ?_; intro v1 w1 hI hg _; rw [List.nil_append] at hI; have hb1 := HBc.out.grown hg HBc.out.size (fun k e => by cases e; first | exact Nat.le_refl _ | exact Nat.le_succ _); have HI1 := Lib.hid hI; have HU1 := Lib.hid (HUc.out.grown hg (fun a e => by cases e; intro e2; have e3 := Option.some.inj e2; simp at e3)); clear hI hg) | (refine step_app_ints rfl (.tmp 63) (.tmp 65) rfl (B := wr.heap.size) (D := D.take j) rfl (HI1.out.alloc _) (ao := some ⟨w1.heap.size, 0, none⟩) (cap := 1) (l := [u]) (m := 1) rfl rfl (NLI.made w1 u HWF.out) (by rw [HL1.out]; simp; omega) (by have := hb1.size; simp; omega) ?_; intro v2 w2 hI hg _; have hb2 := (hb1.alloc hb1.size _).grown hg (by have := hb1.size; simp; omega) (fun k e => (HI1.out.1.lt k e).1); have HI2 := Lib.hid hI; clear hI hg) | (refine step_app_ints rfl (.tmp 63) (.tmp 65) rfl (B := wr.heap.size) (D := D.take j) rfl HI1.out (ao := some ⟨_, 0, none⟩) (cap := 1) (l := [u]) (m := 1) rfl rfl HU1.out (by rw [HL1.out]; simp; omega) hb1.size ?_; intro v2 w2 hI hg _; have hb2 := hb1.grown hg hb1.size (fun k e => (HI1.out.1.lt k e).1); have HI2 := Lib.hid hI; clear hI hg) | (refine step_app_ints rfl (.tmp 66) (.tmp 69) rfl (B := wr.heap.size) (D := D.take j ++ [u]) rfl HI2.out (ao := none) (cap := lc - j) (l := D.drop j) (m := 0) HL2.out rfl (HS3.out _ hb2) (by rw [List.length_append, HL1.out, HL2.out]; simp; omega) hb2.size ?_; intro v3 w3 hI hg _; have hb3 := hb2.grown hg hb2.size (fun k e => (HI2.out.1.lt k e).1); rw [List.append_assoc] at hI; have HI3 := Lib.hid hI; clear hI hg))
                all_goals
                  go_wp2_with fail
                  go_roundw
                  case rel => exact ⟨k + 1, by go_num, by omega, by rw [HDD.out]; exact HI3.out.lower hsz2, HB2.out.trans (hb3.mono hsz2)⟩
                  case measure => simp [intOf]; omega
              · subst hlo0
                have HS2 := Lib.hid (fun (W : World) (hb : Below wr.heap.size wr W) => show NLI W (some ⟨g, 0, none⟩) lc (D.take j) from (HND.out.take j hj).below hb)
                by_cases hcap : lc = j
                · subst hcap
                  have HS3 := Lib.hid (fun (W : World) (hb : Below wr.heap.size wr W) => show NLI W (some ⟨g, 0, none⟩) 0 (D.drop lc) from by rw [HNIL.out]; exact ⟨NL.nil _ _, fun _ => rfl, Nat.le_refl _⟩)
                  have hl1 : (D.take lc).length = lc := by rw [List.length_take]; omega
                  have HL1 := Lib.hid hl1
                  have HL2 := Lib.hid (show (D.drop lc).length = 0 from by rw [HNIL.out]; rfl)
                  have i1 : (0 : Int) ≤ (lc : Int) := by omega
                  have i2 : (lc : Int) ≤ (lc : Int) := by omega
                  have i3 : (lc : Int) ≤ (D.length : Int) := by omega
                  have i4 : (D.length : Int) ≤ (lc : Int) := by omega
                  clear hl1
                  go_wp2_with fail
                  have HFa := Lib.hid (show OI (wr.alloc (.cells #[] 3)).drew wr.heap.size (.slice (some ⟨wr.heap.size, 0, none⟩) 0 0) [] from (OI.made wr (Nat.le_refl _)).drew)
                  have HFb := Lib.hid (show OI ((wr.alloc (.cells #[] 3)).alloc (.cells #[.int .i64 u] 3)).drew wr.heap.size (.slice (some ⟨wr.heap.size, 0, none⟩) 0 0) [] from ((OI.made wr (Nat.le_refl _)).alloc _).drew)
                  have HFc := Lib.hid (show OI ((wr.alloc (.cells #[.int .i64 u] 3)).alloc (.cells #[] 3)).drew wr.heap.size (.slice (some ⟨wr.heap.size + 1, 0, none⟩) 0 0) [] from by have := (OI.made (wr.alloc (.cells #[.int .i64 u] 3)) (B := wr.heap.size) (by simp)).drew; simpa using this)
                  have HUb := Lib.hid (show NLI ((wr.alloc (.cells #[] 3)).alloc (.cells #[.int .i64 u] 3)).drew (some ⟨wr.heap.size + 1, 0, none⟩) 1 [u] from by have := (NLI.made (wr.alloc (.cells #[] 3)) u HWF.out).drew; simpa using this)
                  have HUc := Lib.hid (show NLI ((wr.alloc (.cells #[.int .i64 u] 3)).alloc (.cells #[] 3)).drew (some ⟨wr.heap.size, 0, none⟩) 1 [u] from ((NLI.made wr u HWF.out).alloc _).drew)
                  have HBa := Lib.hid (show Below wr.heap.size wr (wr.alloc (.cells #[] 3)).drew from ((Below.refl _ _).alloc (Nat.le_refl _) _).drew)
                  have HBb := Lib.hid (show Below wr.heap.size wr ((wr.alloc (.cells #[] 3)).alloc (.cells #[.int .i64 u] 3)).drew from (((Below.refl _ _).alloc (Nat.le_refl _) _).alloc (by simp) _).drew)
                  have HBc := Lib.hid (show Below wr.heap.size wr ((wr.alloc (.cells #[.int .i64 u] 3)).alloc (.cells #[] 3)).drew from (((Below.refl _ _).alloc (Nat.le_refl _) _).alloc (by simp) _).drew)
                  go_region_held3 (fun W => Below wr.heap.size wr W) (first | assumption | exact HBa.out | exact HBb.out | exact HBc.out | exact (Below.refl _ _).drew | exact Below.alloc (by assumption) (Below.size (by assumption)) _ | exact ((Below.refl _ _).alloc (Nat.le_refl _) _).drew) (first | (refine step_app_ints rfl (.tmp 59) (.tmp 62) rfl (B := wr.heap.size) (v := .slice (some ⟨wr.heap.size, 0, none⟩) 0 0) (D := []) rfl HFa.out (ao := some ⟨g, 0, none⟩) (cap := lc) (l := D.take lc) (m := lc) HL1.out rfl (HS2.out _ HBa.out) (by simp; omega) HBa.out.size ?_; intro v1 w1 hI hg _; rw [List.nil_append] at hI; have hb1 := HBa.out.grown hg HBa.out.size (fun k e => by cases e; first | exact Nat.le_refl _ | exact Nat.le_succ _); have HI1 := Lib.hid hI; clear hI hg) | (refine step_app_ints rfl (.tmp 59) (.tmp 62) rfl (B := wr.heap.size) (v := .slice (some ⟨wr.heap.size, 0, none⟩) 0 0) (D := []) rfl HFb.out (ao := some ⟨g, 0, none⟩) (cap := lc) (l := D.take lc) (m := lc) HL1.out rfl (HS2.out _ HBb.out) (by simp; omega) HBb.out.size ?_; intro v1 w1 hI hg _; rw [List.nil_append] at hI; have hb1 := HBb.out.grown hg HBb.out.size (fun k e => by cases e; first | exact Nat.le_refl _ | exact Nat.le_succ _); have HI1 := Lib.hid hI; have HU1 := Lib.hid (HUb.out.grown hg (fun a e => by cases e; intro e2; have e3 := Option.some.inj e2; simp at e3)); clear hI hg) | (refine step_app_ints rfl (.tmp 59) (.tmp 62) rfl (B := wr.heap.size) (v := .slice (some ⟨wr.heap.size + 1, 0, none⟩) 0 0) (D := []) rfl HFc.out (ao := some ⟨g, 0, none⟩) (cap := lc) (l := D.take lc) (m := lc) HL1.out rfl (HS2.out _ HBc.out) (by simp; omega) HBc.out.size ?_; intro v1 w1 hI hg _; rw [List.nil_append] at hI; have hb1 := HBc.out.grown hg HBc.out.size (fun k e => by cases e; first | exact Nat.le_refl _ | exact Nat.le_succ _); have HI1 := Lib.hid hI; have HU1 := Lib.hid (HUc.out.grown hg (fun a e => by cases e; intro e2; have e3 := Option.some.inj e2; simp at e3)); clear hI hg) | (refine step_app_ints rfl (.tmp 63) (.tmp 65) rfl (B := wr.heap.size) (D := D.take lc) rfl (HI1.out.alloc _) (ao := some ⟨w1.heap.size, 0, none⟩) (cap := 1) (l := [u]) (m := 1) rfl rfl (NLI.made w1 u HWF.out) (by rw [HL1.out]; simp; omega) (by have := hb1.size; simp; omega) ?_; intro v2 w2 hI hg _; have hb2 := (hb1.alloc hb1.size _).grown hg (by have := hb1.size; simp; omega) (fun k e => (HI1.out.1.lt k e).1); have HI2 := Lib.hid hI; clear hI hg) | (refine step_app_ints rfl (.tmp 63) (.tmp 65) rfl (B := wr.heap.size) (D := D.take lc) rfl HI1.out (ao := some ⟨_, 0, none⟩) (cap := 1) (l := [u]) (m := 1) rfl rfl HU1.out (by rw [HL1.out]; simp; omega) hb1.size ?_; intro v2 w2 hI hg _; have hb2 := hb1.grown hg hb1.size (fun k e => (HI1.out.1.lt k e).1); have HI2 := Lib.hid hI; clear hI hg) | (refine step_app_ints rfl (.tmp 66) (.tmp 69) rfl (B := wr.heap.size) (D := D.take lc ++ [u]) rfl HI2.out (ao := some ⟨g, 0, none⟩) (cap := 0) (l := D.drop lc) (m := 0) HL2.out rfl (HS3.out _ hb2) (by rw [List.length_append, HL1.out, HL2.out]; simp; omega) hb2.size ?_; intro v3 w3 hI hg _; have hb3 := hb2.grown hg hb2.size (fun k e => (HI2.out.1.lt k e).1); rw [List.append_assoc] at hI; have HI3 := Lib.hid hI; clear hI hg))
                  all_goals
                    go_wp2_with fail
                    go_roundw
                    case rel => exact ⟨k + 1, by go_num, by omega, by rw [HDD.out]; exact HI3.out.lower hsz2, HB2.out.trans (hb3.mono hsz2)⟩
                    case measure => simp [intOf]; omega
                · have HS3 := Lib.hid (fun (W : World) (hb : Below wr.heap.size wr W) => show NLI W (some ⟨g, j, none⟩) (lc - j) (D.drop j) from by have := (HND.out.drop j).below hb; rwa [Nat.zero_add] at this)
                  have hl1 : (D.take j).length = j := by rw [List.length_take]; omega
                  have HL1 := Lib.hid hl1
                  have HL2 := Lib.hid (show (D.drop j).length = 0 from by rw [HNIL.out]; rfl)
                  have i1 : (0 : Int) ≤ (j : Int) := by omega
                  have i2 : (j : Int) ≤ (lc : Int) := by omega
                  have i3 : (j : Int) ≤ (D.length : Int) := by omega
                  have i4 : (D.length : Int) ≤ (lc : Int) := by omega
                  clear hl1
                  go_wp2_with fail
                  have HFa := Lib.hid (show OI (wr.alloc (.cells #[] 3)).drew wr.heap.size (.slice (some ⟨wr.heap.size, 0, none⟩) 0 0) [] from (OI.made wr (Nat.le_refl _)).drew)
                  have HFb := Lib.hid (show OI ((wr.alloc (.cells #[] 3)).alloc (.cells #[.int .i64 u] 3)).drew wr.heap.size (.slice (some ⟨wr.heap.size, 0, none⟩) 0 0) [] from ((OI.made wr (Nat.le_refl _)).alloc _).drew)
                  have HFc := Lib.hid (show OI ((wr.alloc (.cells #[.int .i64 u] 3)).alloc (.cells #[] 3)).drew wr.heap.size (.slice (some ⟨wr.heap.size + 1, 0, none⟩) 0 0) [] from by have := (OI.made (wr.alloc (.cells #[.int .i64 u] 3)) (B := wr.heap.size) (by simp)).drew; simpa using this)
                  have HUb := Lib.hid (show NLI ((wr.alloc (.cells #[] 3)).alloc (.cells #[.int .i64 u] 3)).drew (some ⟨wr.heap.size + 1, 0, none⟩) 1 [u] from by have := (NLI.made (wr.alloc (.cells #[] 3)) u HWF.out).drew; simpa using this)
                  have HUc := Lib.hid (show NLI ((wr.alloc (.cells #[.int .i64 u] 3)).alloc (.cells #[] 3)).drew (some ⟨wr.heap.size, 0, none⟩) 1 [u] from ((NLI.made wr u HWF.out).alloc _).drew)
                  have HBa := Lib.hid (show Below wr.heap.size wr (wr.alloc (.cells #[] 3)).drew from ((Below.refl _ _).alloc (Nat.le_refl _) _).drew)
                  have HBb := Lib.hid (show Below wr.heap.size wr ((wr.alloc (.cells #[] 3)).alloc (.cells #[.int .i64 u] 3)).drew from (((Below.refl _ _).alloc (Nat.le_refl _) _).alloc (by simp) _).drew)
                  have HBc := Lib.hid (show Below wr.heap.size wr ((wr.alloc (.cells #[.int .i64 u] 3)).alloc (.cells #[] 3)).drew from (((Below.refl _ _).alloc (Nat.le_refl _) _).alloc (by simp) _).drew)
                  go_region_held3 (fun W => Below wr.heap.size wr W) (first | assumption | exact HBa.out | exact HBb.out | exact HBc.out | exact (Below.refl _ _).drew | exact Below.alloc (by assumption) (Below.size (by assumption)) _ | exact ((Below.refl _ _).alloc (Nat.le_refl _) _).drew) (first | (refine step_app_ints rfl (.tmp 59) (.tmp 62) rfl (B := wr.heap.size) (v := .slice (some ⟨wr.heap.size, 0, none⟩) 0 0) (D := []) rfl HFa.out (ao := some ⟨g, 0, none⟩) (cap := lc) (l := D.take j) (m := j) HL1.out rfl (HS2.out _ HBa.out) (by simp; omega) HBa.out.size ?_; intro v1 w1 hI hg _; rw [List.nil_append] at hI; have hb1 := HBa.out.grown hg HBa.out.size (fun k e => by cases e; first | exact Nat.le_refl _ | exact Nat.le_succ _); have HI1 := Lib.hid hI; clear hI hg) | (refine step_app_ints rfl (.tmp 59) (.tmp 62) rfl (B := wr.heap.size) (v := .slice (some ⟨wr.heap.size, 0, none⟩) 0 0) (D := []) rfl HFb.out (ao := some ⟨g, 0, none⟩) (cap := lc) (l := D.take j) (m := j) HL1.out rfl (HS2.out _ HBb.out) (by simp; omega) HBb.out.size ?_; intro v1 w1 hI hg _; rw [List.nil_append] at hI; have hb1 := HBb.out.grown hg HBb.out.size (fun k e => by cases e; first | exact Nat.le_refl _ | exact Nat.le_succ _); have HI1 := Lib.hid hI; have HU1 := Lib.hid (HUb.out.grown hg (fun a e => by cases e; intro e2; have e3 := Option.some.inj e2; simp at e3)); clear hI hg) | (refine step_app_ints rfl (.tmp 59) (.tmp 62) rfl (B := wr.heap.size) (v := .slice (some ⟨wr.heap.size + 1, 0, none⟩) 0 0) (D := []) rfl HFc.out (ao := some ⟨g, 0, none⟩) (cap := lc) (l := D.take j) (m := j) HL1.out rfl (HS2.out _ HBc.out) (by simp; omega) HBc.out.size ?_; intro v1 w1 hI hg _; rw [List.nil_append] at hI; have hb1 := HBc.out.grown hg HBc.out.size (fun k e => by cases e; first | exact Nat.le_refl _ | exact Nat.le_succ _); have HI1 := Lib.hid hI; have HU1 := Lib.hid (HUc.out.grown hg (fun a e => by cases e; intro e2; have e3 := Option.some.inj e2; simp at e3)); clear hI hg) | (refine step_app_ints rfl (.tmp 63) (.tmp 65) rfl (B := wr.heap.size) (D := D.take j) rfl (HI1.out.alloc _) (ao := some ⟨w1.heap.size, 0, none⟩) (cap := 1) (l := [u]) (m := 1) rfl rfl (NLI.made w1 u HWF.out) (by rw [HL1.out]; simp; omega) (by have := hb1.size; simp; omega) ?_; intro v2 w2 hI hg _; have hb2 := (hb1.alloc hb1.size _).grown hg (by have := hb1.size; simp; omega) (fun k e => (HI1.out.1.lt k e).1); have HI2 := Lib.hid hI; clear hI hg) | (refine step_app_ints rfl (.tmp 63) (.tmp 65) rfl (B := wr.heap.size) (D := D.take j) rfl HI1.out (ao := some ⟨_, 0, none⟩) (cap := 1) (l := [u]) (m := 1) rfl rfl HU1.out (by rw [HL1.out]; simp; omega) hb1.size ?_; intro v2 w2 hI hg _; have hb2 := hb1.grown hg hb1.size (fun k e => (HI1.out.1.lt k e).1); have HI2 := Lib.hid hI; clear hI hg) | (refine step_app_ints rfl (.tmp 66) (.tmp 69) rfl (B := wr.heap.size) (D := D.take j ++ [u]) rfl HI2.out (ao := some ⟨g, j, none⟩) (cap := lc - j) (l := D.drop j) (m := 0) HL2.out rfl (HS3.out _ hb2) (by rw [List.length_append, HL1.out, HL2.out]; simp; omega) hb2.size ?_; intro v3 w3 hI hg _; have hb3 := hb2.grown hg hb2.size (fun k e => (HI2.out.1.lt k e).1); rw [List.append_assoc] at hI; have HI3 := Lib.hid hI; clear hI hg))
                  all_goals
                    go_wp2_with fail
                    go_roundw
                    case rel => exact ⟨k + 1, by go_num, by omega, by rw [HDD.out]; exact HI3.out.lower hsz2, HB2.out.trans (hb3.mono hsz2)⟩
                    case measure => simp [intOf]; omega
        · obtain rfl : k = L[n].length := by omega
          rw [uptoU_chain L n hlt] at hO2
          have HO2 := Lib.hid hO2
          have HB2 := Lib.hid hb2
          clear hO2 hb2
          go_wp2_with fail
          go_roundw
          case rel => exact ⟨n + 1, by go_num, by omega, HO2.out, HB2.out⟩
          case measure => simp [intOf]; omega
    · obtain rfl : n = L.length := by omega
      rw [uptoU_all] at hO
      obtain ⟨bo, cb, rfl, hN, _, _⟩ := hO.form
      go_wp2_with fail
      go_ret
      exact ⟨_, rfl, hO.lower (Nat.le_succ _), HW.out⟩
theorem refUnits_any (ep : Int) (ao : Option Addr) (cap : Nat) (L : List (List Int)) (w : World) (h : CL w ao L) (hl : L.length ≤ 255 ∧ ∀ c ∈ L, c.length ≤ 255) :
    Calls Tryz.prog 36 #[.agg #[.int .i64 ep, .slice ao L.length cap]] w fun e w' => ∃ bo cb, e = .returned (.slice bo (unitsR L).length cb) ∧ NLI w' bo cb (unitsR L) ∧ Below w.heap.size w w' := by
  refine (refUnitsO_any ep ao cap L w h ⟨hl.1, fun c hc => Nat.le_trans (hl.2 c hc) (by decide)⟩).mono ?_
  rintro e w' ⟨v, rfl, hO, hb⟩
  obtain ⟨bo, cb, rfl, hN, _, _⟩ := hO.form
  exact ⟨bo, cb, rfl, hN, hb⟩
end Go.Proofs.YtchhmfdalghgcaaGreat
