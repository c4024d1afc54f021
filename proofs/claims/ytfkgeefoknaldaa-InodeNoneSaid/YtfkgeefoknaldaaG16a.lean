/- What the library's DeleteFunc returns of parts that are a row of the caller's own, where holes are struck; what the program's own parts returns. Conditions: as each statement says. -/
import Derived.Test.YtfkgeefoknaldaaG15a
set_option linter.unusedVariables false
namespace Go.Proofs.Ytfkgeefoknaldaa
open Go.RowKit Go.Sort
set_option linter.unusedVariables false
set_option maxRecDepth 20000
theorem solid_all {l : List Pt} (h : ∀ x ∈ l, holeB x = false) : solidE l = l := by
  unfold solidE
  rw [List.filter_eq_self]
  intro x hx
  rw [h x hx]
  rfl
theorem solid_take_hole {l : List Pt} {k : Nat} (hk : k < l.length) (h : holeB l[k] = true) : solidE (l.take (k + 1)) = solidE (l.take k) := by
  rw [List.take_succ_eq_append_getElem hk]
  exact solid_hole (of_decide_eq_true h)
theorem solid_take_part {l : List Pt} {k : Nat} (hk : k < l.length) (h : holeB l[k] = false) : solidE (l.take (k + 1)) = solidE (l.take k) ++ [l[k]] := by
  rw [List.take_succ_eq_append_getElem hk]
  exact solid_part (of_decide_eq_false h)
/-- while holes are struck: q is kept, m is to be written over, the rest is as it was -/
structure DelI (l : List Pt) (i j : Nat) (q m : List Pt) : Prop where
  kept : q = solidE (l.take j)
  ql : q.length = i
  ml : i + m.length = j
  ne : m ≠ []
  le : j ≤ l.length
theorem DelI.start {l : List Pt} {k : Nat} (hk : k < l.length) (h : holeB l[k] = true) (hb : ∀ x ∈ l.take k, holeB x = false) : DelI l k (k + 1) (l.take k) [l[k]] ∧ l.take k ++ ([l[k]] ++ l.drop (k + 1)) = l := by
  refine ⟨⟨?_, by rw [List.length_take]; omega, rfl, by simp, by omega⟩, ?_⟩
  · rw [solid_take_hole hk h, solid_all hb]
  · rw [← List.append_assoc, ← List.take_succ_eq_append_getElem hk, List.take_append_drop]
theorem DelI.hole {l : List Pt} {i j : Nat} {q m : List Pt} (h : DelI l i j q m) (hj : j < l.length) (hh : holeB l[j] = true) : DelI l i (j + 1) q (m ++ [l[j]]) ∧ q ++ ((m ++ [l[j]]) ++ l.drop (j + 1)) = q ++ (m ++ l.drop j) := by
  refine ⟨⟨by rw [solid_take_hole hj hh]; exact h.kept, h.ql, by rw [List.length_append]; have := h.ml; simp; omega, by simp, by omega⟩, ?_⟩
  rw [List.drop_eq_getElem_cons hj]
  simp
theorem DelI.part {l : List Pt} {i j : Nat} {q m0 : List Pt} {y : Pt} (h : DelI l i j q (y :: m0)) (hj : j < l.length) (hh : holeB l[j] = false) : DelI l (i + 1) (j + 1) (q ++ [l[j]]) (m0 ++ [l[j]]) ∧ (q ++ [l[j]]) ++ ((m0 ++ [l[j]]) ++ l.drop (j + 1)) = q ++ l[j] :: (m0 ++ l.drop j) := by
  refine ⟨⟨by rw [solid_take_part hj hh, ← h.kept], by rw [List.length_append, h.ql]; rfl, by have := h.ml; rw [List.length_append]; simp at this ⊢; omega, by simp, by omega⟩, ?_⟩
  rw [List.drop_eq_getElem_cons hj]
  simp
theorem DelI.at {l : List Pt} {i j : Nat} {q m : List Pt} (h : DelI l i j q m) (hj : j < l.length) : (q ++ (m ++ l.drop j)).length = l.length ∧ (q ++ (m ++ l.drop j))[j]? = some l[j] := by
  have hq := h.ql
  have hm := h.ml
  refine ⟨by rw [List.length_append, List.length_append, List.length_drop]; omega, ?_⟩
  rw [← List.append_assoc, List.getElem?_append_right (by rw [List.length_append]; omega), List.length_append, show j - (q.length + m.length) = 0 by omega, List.drop_eq_getElem_cons hj]
  rfl
theorem PaL.atO {w : World} {g : Nat} {B cap N : Nat} {l : List Pt} (h : OPa w B (.slice (some ⟨g, 0, none⟩) N cap) l) (hN : l.length = N) {j : Nat} {x : Pt} (hx : l[j]? = some x) :
    (w.cell? ⟨g, j * 4, none⟩ = some (.int .i64 x.off) ∧ w.cell? ⟨g, j * 4 + 1, none⟩ = some (.int .i64 x.len) ∧ w.cell? ⟨g, j * 4 + 2, none⟩ = some (.int .i64 x.addr) ∧ w.cell? ⟨g, j * 4 + 3, none⟩ = some (.int .i64 x.src)) := by
  subst hN
  obtain ⟨hj, hx2⟩ := List.getElem?_eq_some_iff.1 hx
  unfold OPa OR at h
  have hat : ∀ i, i < 4 → w.cell? ⟨g, j * 4 + i, none⟩ = (parC x)[i]? := fun i hi => by
    rw [h.cellAt _ (by have := Nat.mul_le_mul_right 4 hj; omega), par_rows.flat_at l j hj i hi, hx2]
  exact ⟨hat 0 (by decide), hat 1 (by decide), hat 2 (by decide), hat 3 (by decide)⟩
theorem OPa.free {w : World} {g : Nat} {B cap N : Nat} {l : List Pt} (h : OPa w B (.slice (some ⟨g, 0, none⟩) N cap) l) (hN : l.length = N) (j : Nat) : w.frozen? ⟨g, j, none⟩ = false := by
  subst hN
  unfold OPa OR at h
  exact h.frozenAt j
theorem eindex_none (ao : Option Addr) (cap : Nat) (l : List Pt) (w : World) (h : PaL w ao l) (hl : l.length ≤ 1000000) (hn : ∀ x ∈ l, holeB x = false) :
    Calls Try.prog 84 #[.slice ao l.length cap, .func (.func 80) #[] #[]] w fun e w' => e = .returned (.int .i64 (-1)) ∧ Below w.heap.size w w' := by
  refine (eindex_any ao cap l w h hl).mono ?_
  rintro e w' ⟨r, rfl, hf, hb⟩
  rcases hf with ⟨rfl, _⟩ | ⟨k, rfl, hk, hh, _⟩
  · exact ⟨rfl, hb⟩
  · rw [hn _ (List.getElem_mem hk)] at hh
    cases hh
theorem take_mem {l : List Pt} {j k : Nat} (hj : j < l.length) (hjk : j < k) : l[j] ∈ l.take k := List.mem_take_iff_getElem.2 ⟨j, by omega, rfl⟩
theorem eindex_some (ao : Option Addr) (cap : Nat) (l : List Pt) (w : World) (h : PaL w ao l) (hl : l.length ≤ 1000000) (k : Nat) (hk : k < l.length) (hh : holeB l[k] = true) (hn : ∀ x ∈ l.take k, holeB x = false) :
    Calls Try.prog 84 #[.slice ao l.length cap, .func (.func 80) #[] #[]] w fun e w' => e = .returned (.int .i64 k) ∧ Below w.heap.size w w' := by
  refine (eindex_any ao cap l w h hl).mono ?_
  rintro e w' ⟨r, rfl, hf, hb⟩
  rcases hf with ⟨rfl, h2⟩ | ⟨k2, rfl, hk2, hh2, hn2⟩
  · rw [h2 _ (List.getElem_mem hk)] at hh
    cases hh
  · rcases Nat.lt_trichotomy k k2 with g | g | g
    · rw [hn2 _ (take_mem hk g)] at hh
      cases hh
    · subst g
      exact ⟨rfl, hb⟩
    · rw [hn _ (take_mem hk2 g)] at hh2
      cases hh2
theorem first_hole (l : List Pt) : (∀ x ∈ l, holeB x = false) ∨ ∃ k, ∃ h : k < l.length, holeB l[k] = true ∧ ∀ x ∈ l.take k, holeB x = false := by
  induction l with
  | nil => exact .inl (fun x hx => by cases hx)
  | cons y l ih =>
    cases e : holeB y
    · rcases ih with h | ⟨k, hk, h1, h2⟩
      · refine .inl (fun x hx => ?_)
        rcases List.mem_cons.1 hx with rfl | hx
        · exact e
        · exact h x hx
      · refine .inr ⟨k + 1, by simpa using hk, h1, fun x hx => ?_⟩
        rw [List.take_succ_cons] at hx
        rcases List.mem_cons.1 hx with rfl | hx
        · exact e
        · exact h2 x hx
    · exact .inr ⟨0, by simp, e, fun x hx => by cases hx⟩
set_option maxHeartbeats 4000000 in
theorem edelete_any (B : Nat) (v : Value) (l : List Pt) (w : World) (h : OPa w B v l) (hB : B ≤ w.heap.size) (hl : l.length ≤ 1000000) :
    Calls Try.prog 78 #[v, .func (.func 80) #[] #[]] w fun e w' => ∃ v', e = .returned v' ∧ OPa w' B v' (solidE l) ∧ Below B w w' := by
  obtain ⟨ao, cap, rfl, hR, hcap, _, hbl, _, hat⟩ := OR.form par_rows h
  have hl' : (l.length : Int) ≤ 1000000 := by omega
  rcases first_hole l with hn | ⟨k, hk, hh, hn⟩
  · have CI := Lib.hid (eindex_none ao cap l w hR hl hn)
    have HS := Lib.hid (solid_all hn)
    have HO := Lib.hid h
    clear h hl hbl hat hcap hR hn
    go_enter Try.func78, Try.ntmps78
    go_wp2_with (go_at_call 84; refine CI.out.mono ?_; rintro e w1 ⟨rfl, hb⟩; have HB1 := Lib.hid hb; clear hb)
    go_ret
    exact ⟨_, rfl, by rw [HS.out]; exact HO.out.below HB1.out, HB1.out.mono hB⟩
  · have CI := Lib.hid (eindex_some ao cap l w hR hl k hk hh hn)
    obtain ⟨bk, off, hao, _⟩ := hR k hk
    subst hao
    obtain rfl : off = 0 := by have := hat _ rfl; simpa using this
    have hgB : B ≤ bk := (hbl _ rfl).1
    have hgl : bk < w.heap.size := (hbl _ rfl).2
    obtain ⟨I0, E0⟩ := DelI.start hk hh hn
    have HI0 := Lib.hid I0
    have HO0 := Lib.hid (show OPa w B (.slice (some ⟨bk, 0, none⟩) l.length cap) (l.take k ++ ([l[k]] ++ l.drop (k + 1))) from by rw [E0]; exact h)
    have hkI : (k : Int) < (l.length : Int) := by omega
    have hk1 : ((k : Int) == -1) = false := beq_eq_false_iff_ne.2 (by omega)
    have hcI : l.length ≤ cap := hcap
    clear h hbl hat hR hn hh I0 E0 hl hcap
    go_enter Try.func78, Try.ntmps78
    go_wp2_with (go_at_call 84; refine CI.out.mono ?_; rintro e w1 ⟨rfl, hb⟩; have HO1 := Lib.hid (HO0.out.below hb); have HB1 := Lib.hid (hb.mono hB); have hs1 := hb.size; clear hb)
    go_loopw [5, 6] (fun s5 s6 wr => ∃ (i j : Nat) (q m : List Pt), s5 = .int .i64 i ∧ s6 = .int .i64 j ∧ j ≤ l.length ∧ i < j ∧ Hid (DelI l i j q m) ∧ Hid (OPa wr B (.slice (some ⟨bk, 0, none⟩) l.length cap) (q ++ (m ++ l.drop j))) ∧ Hid (Below B w wr) ∧ B ≤ wr.heap.size) (fun _ s6 _ => l.length - (intOf s6).toNat)
    case atStart => exact ⟨k, k + 1, _, _, rfl, by go_num, by omega, by omega, HI0, HO1, HB1, by omega⟩
    case round =>
      obtain ⟨i, j, q, m, rfl, rfl, hj, hij, HI, HO, HB, hsz⟩ := hrel
      by_cases hlt : j < l.length
      · have j0 : (j : Int) < (l.length : Int) := by omega
        obtain ⟨hN, hx0⟩ := HI.out.at hlt
        obtain ⟨x, hx⟩ : ∃ x, Hid (l[j] = x) := ⟨_, Lib.hid rfl⟩
        rw [hx.out] at hx0
        have HX0 := Lib.hid hx0
        have HN := Lib.hid hN
        obtain ⟨c0, c1, c2, c3⟩ := PaL.atO HO.out hN hx0
        have CH := Lib.hid (fun W => ehole_any x W)
        have HXB := Lib.hid (show PtB (wr.alloc (.cells #[.int .i64 x.off, .int .i64 x.len, .int .i64 x.addr, .int .i64 x.src] 52)) wr.heap.size x from heap_alloc_new _ _)
        have HO2 := Lib.hid (HO.out.below (blwA wr (.cells #[.int .i64 x.off, .int .i64 x.len, .int .i64 x.addr, .int .i64 x.src] 52)))
        have HB2 := Lib.hid (HB.out.alloc hsz (.cells #[.int .i64 x.off, .int .i64 x.len, .int .i64 x.addr, .int .i64 x.src] 52))
        have HS2 := Lib.hid (show B ≤ (wr.alloc (.cells #[.int .i64 x.off, .int .i64 x.len, .int .i64 x.addr, .int .i64 x.src] 52)).heap.size from by simp; omega)
        clear hN hx0
        cases hh : holeB x
        · rw [hh] at CH
          obtain ⟨y, m0, hm⟩ : ∃ y m0, m = y :: m0 := by
            cases m with
            | nil => exact absurd rfl HI.out.ne
            | cons y m0 => exact ⟨y, m0, rfl⟩
          subst hm
          obtain ⟨I1, E1⟩ := HI.out.part hlt (by rw [hx.out]; exact hh)
          rw [hx.out] at I1 E1
          have HI1 := Lib.hid I1
          have HE1 := Lib.hid E1
          have hqi := Lib.hid HI.out.ql
          have hiI : (i : Int) < (l.length : Int) := by omega
          have HX2 := Lib.hid (fun (w3 : World) (hb3 : Below (wr.alloc (.cells #[.int .i64 x.off, .int .i64 x.len, .int .i64 x.addr, .int .i64 x.src] 52)).heap.size (wr.alloc (.cells #[.int .i64 x.off, .int .i64 x.len, .int .i64 x.addr, .int .i64 x.src] 52)) w3) => HXB.out.below hb3)
          clear hh I1 E1
          go_wp2_with (go_at_call 80; refine (CH.out _).mono ?_; rintro e w3 ⟨rfl, hb3⟩; have HO3 := Lib.hid (HO2.out.below hb3); have HB3 := Lib.hid (HB2.out.trans (hb3.mono HS2.out)); have HS3 := Lib.hid (Nat.le_trans HS2.out hb3.size); obtain ⟨e0, e1, e2, e3⟩ := (HX2.out w3 hb3).cells; have f0 := OPa.free HO3.out HN.out (i * 4); have f1 := OPa.free HO3.out HN.out (i * 4 + 1); have f2 := OPa.free HO3.out HN.out (i * 4 + 2); have f3 := OPa.free HO3.out HN.out (i * 4 + 3); obtain ⟨i0, i1, i2, i3⟩ := PaL.atO (j := i) HO3.out HN.out (x := y) (by rw [← hqi.out]; simp); clear hb3)
          have HO4 := Lib.hid (OPa.put (x := x) HO3.out HN.out)
          rw [hqi.out] at HO4
          have HB4 := Lib.hid ((((HB3.out.setCell (p := ⟨bk, i * 4, none⟩) hgB (.int .i64 x.off)).setCell (p := ⟨bk, i * 4 + 1, none⟩) hgB (.int .i64 x.len)).setCell (p := ⟨bk, i * 4 + 2, none⟩) hgB (.int .i64 x.addr)).setCell (p := ⟨bk, i * 4 + 3, none⟩) hgB (.int .i64 x.src))
          go_roundw
          case rel => exact ⟨i + 1, j + 1, _, _, by go_num, by go_num, by omega, by omega, HI1, Lib.hid (by rw [HE1.out]; exact HO4.out), HB4, by have := HS3.out; simpa using this⟩
          case measure => simp [intOf]; omega
        · rw [hh] at CH
          obtain ⟨I1, E1⟩ := HI.out.hole hlt (by rw [hx.out]; exact hh)
          have HI1 := Lib.hid I1
          have HE1 := Lib.hid E1
          clear hh I1 E1
          go_wp2_with (go_at_call 80; refine (CH.out _).mono ?_; rintro e w3 ⟨rfl, hb3⟩; have HO3 := Lib.hid (HO2.out.below hb3); have HB3 := Lib.hid (HB2.out.trans (hb3.mono HS2.out)); have HS3 := Lib.hid (Nat.le_trans HS2.out hb3.size); clear hb3)
          go_roundw
          case rel => exact ⟨i, j + 1, _, _, rfl, by go_num, by omega, by omega, HI1, Lib.hid (by rw [HE1.out]; exact HO3.out), HB3, HS3.out⟩
          case measure => simp [intOf]; omega
      · obtain rfl : j = l.length := by omega
        rw [List.drop_length, List.append_nil] at HO
        have hml : q.length + m.length = l.length := by rw [HI.out.ql]; exact HI.out.ml
        have hqi := Lib.hid HI.out.ql
        have hiI : (i : Int) < (l.length : Int) := by omega
        have hi0 : i ≤ l.length := by omega
        have hi1 : i ≤ cap := by omega
        obtain ⟨w5, hr, ho, hg⟩ := OPa.cleared HO.out (by rw [List.length_append]; exact hml) HI.out.ne 0 (cap - i) (n := l.length - i) (by rw [HI.out.ql]; omega)
        rw [HI.out.ql] at hr ho
        have HKP := Lib.hid (show q = solidE l from by have := HI.out.kept; rwa [List.take_length] at this)
        have HR5 := Lib.hid hr
        have HO5 := Lib.hid ho
        have HB5 := Lib.hid (HB.out.grown hg hsz (fun k e => by cases e; exact hgB))
        clear hr ho hg
        go_wp2_with (refine wpList_clear_run _ rfl _ _ rfl _ rfl _ _ HR5.out ?_)
        go_ret
        exact ⟨_, rfl, by rw [← HKP.out]; unfold OPa OR at HO5 ⊢; exact HO5.out, HB5.out⟩
theorem fewE_yes {l : List Pt} (h : l.length ≤ 64) : fewE l = (l, 0) := if_pos h
theorem fewE_no {l : List Pt} (h : ¬ l.length ≤ 64) : fewE l = ([], 3) := if_neg h
set_option maxHeartbeats 4000000 in
theorem eparts_any (w : World) (b n : Nat) (g : MapF) (e : Int) (m : Nat) (hm : m = (e - ((0 : Nat) : Int)).toNat) (hom : 0 + m ≤ 8192) (he : -9223372036854775808 ≤ e) (hg : soundG g) (h : FE w b n g) :
    Calls Try.prog 63 #[.map (some b), .int .i64 e] w fun x w' => ∃ v, x = .returned (.tuple #[v, .int .i64 (fewE (solidE (pcsE (bytG g) 0 m))).2]) ∧ OPa w' w.heap.size v (fewE (solidE (pcsE (bytG g) 0 m))).1 ∧ Below w.heap.size w w' := by
  have CP := Lib.hid (epieces_any w b n g 0 e m hm hom he hg h)
  have HL := Lib.hid (show (solidE (pcsE (bytG g) 0 m)).length ≤ 8192 from Nat.le_trans (List.length_filter_le _ _) (Nat.le_trans (pcs_mid hg hom).1 (by omega)))
  have HPL := Lib.hid (show (pcsE (bytG g) 0 m).length ≤ 1000000 from Nat.le_trans (pcs_mid hg hom).1 (by omega))
  have HY := Lib.hid (@fewE_yes (solidE (pcsE (bytG g) 0 m)))
  have HN := Lib.hid (@fewE_no (solidE (pcsE (bytG g) 0 m)))
  clear h hg hm hom
  generalize pcsE (bytG g) 0 m = L at *
  have CD := Lib.hid (fun (v : Value) (W : World) (hO : OPa W w.heap.size v L) (hB : w.heap.size ≤ W.heap.size) => edelete_any w.heap.size v L W hO hB HPL.out)
  generalize solidE L = S at *
  have CP0 : Hid (Calls Try.prog 79 #[.map (some b), .int .i64 0, .int .i64 e] w fun x w' => ∃ v, x = .returned v ∧ OPa w' w.heap.size v L ∧ Below w.heap.size w w') := CP
  have hS : (S.length : Int) ≤ 8192 := by have := HL.out; omega
  by_cases hf : S.length ≤ 64
  · rw [HY.out hf]
    have hf' : (S.length : Int) ≤ 64 := by omega
    clear hf CP
    go_enter Try.func63, Try.ntmps63
    go_wp2_with (first
      | (go_at_call 78; refine (CD.out _ _ HO1.out HB1.out.size).mono ?_; rintro e w2 ⟨v2, rfl, hO, hB⟩; have HO2 := Lib.hid hO; have HB2 := Lib.hid (HB1.out.trans hB); obtain ⟨ao2, cap2, hv2, _⟩ := OR.form par_rows hO; subst hv2; clear hO hB)
      | (go_at_call 79; refine CP0.out.mono ?_; rintro e w1 ⟨v1, rfl, hO, hB⟩; have HO1 := Lib.hid hO; have HB1 := Lib.hid hB; clear hO hB))
    go_ret2
    exact ⟨_, rfl, HO2.out, HB2.out⟩
  · rw [HN.out hf]
    have hf' : (64 : Int) < (S.length : Int) := by omega
    clear hf CP
    go_enter Try.func63, Try.ntmps63
    go_wp2_with (first
      | (go_at_call 78; refine (CD.out _ _ HO1.out HB1.out.size).mono ?_; rintro e w2 ⟨v2, rfl, hO, hB⟩; have HO2 := Lib.hid hO; have HB2 := Lib.hid (HB1.out.trans hB); obtain ⟨ao2, cap2, hv2, _⟩ := OR.form par_rows hO; subst hv2; clear hO hB)
      | (go_at_call 79; refine CP0.out.mono ?_; rintro e w1 ⟨v1, rfl, hO, hB⟩; have HO1 := Lib.hid hO; have HB1 := Lib.hid hB; clear hO hB))
    go_ret2
    exact ⟨_, rfl, OR.nil _ _, HB2.out⟩
end Go.Proofs.Ytfkgeefoknaldaa
