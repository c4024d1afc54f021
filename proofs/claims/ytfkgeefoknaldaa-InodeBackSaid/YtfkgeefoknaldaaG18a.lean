/- What the program's own Put returns. Conditions: the parts lie where the call was told. -/
import Derived.Test.YtfkgeefoknaldaaG17a
set_option linter.unusedVariables false
namespace Go.Proofs.Ytfkgeefoknaldaa
open Go.RowKit Go.Sort
set_option linter.unusedVariables false
set_option maxRecDepth 20000
theorem OPa.lower {w : World} {B C : Nat} {v : Value} {l : List Pt} (h : OPa w B v l) (hc : C ≤ B) : OPa w C v l := OR.lower h hc
theorem putE_bad {l : List Pt} {x : Pt} (h : goodE l = false) : putE l x = ([], 11) := if_neg (by rw [h]; decide)
theorem putE_no {l : List Pt} {x : Pt} (h : goodE l = true) (hx : oneB x = false) : putE l x = ([], 1) := by
  unfold putE
  rw [if_pos h, if_neg (by rw [hx]; decide)]
theorem putE_yes {l : List Pt} {x : Pt} (h : goodE l = true) (hx : oneB x = true) : putE l x = fewE (gatE (putF (spF l) x) 8192) := by
  unfold putE
  rw [if_pos h, if_pos hx]
set_option maxHeartbeats 8000000 in
theorem eput_any (ao : Option Addr) (cap : Nat) (l : List Pt) (x : Pt) (w : World) (h : PaL w ao l) (hn : ao = none → cap = 0) (hc : l.length ≤ cap) (hlen : l.length ≤ maxLen) :
    Calls Try.prog 45 #[.slice ao l.length cap, .agg #[.int .i64 x.off, .int .i64 x.len, .int .i64 x.addr, .int .i64 x.src]] w fun e w' => ∃ v, e = .returned (.tuple #[v, .int .i64 (putE l x).2]) ∧ OPa w' w.heap.size v (putE l x).1 ∧ Below w.heap.size w w' := by
  have HB0 := Lib.hid (blwA w (.cells #[.int .i64 x.off, .int .i64 x.len, .int .i64 x.addr, .int .i64 x.src] 52))
  have HX0 := Lib.hid (show PtB (w.alloc (.cells #[.int .i64 x.off, .int .i64 x.len, .int .i64 x.addr, .int .i64 x.src] 52)) w.heap.size x from heap_alloc_new _ _)
  have CG := Lib.hid (egood_any ao cap l (w.alloc (.cells #[.int .i64 x.off, .int .i64 x.len, .int .i64 x.addr, .int .i64 x.src] 52)) (h.below HB0.out) hlen)
  have HP := Lib.hid h
  have HLN := Lib.hid hlen
  cases hg : goodE l
  · rw [putE_bad hg]
    rw [hg] at CG
    clear hg h hlen
    go_enter Try.func45, Try.ntmps45
    go_wp2_with (go_at_call 59; refine CG.out.mono ?_; rintro e w1 ⟨rfl, hb1⟩; have HB1 := Lib.hid (blwO hb1 HB0.out); clear hb1)
    go_ret2
    exact ⟨_, rfl, OR.nil _ _, HB1.out⟩
  rw [hg] at CG
  have CA := Lib.hid (fun W => ealone_any x W)
  cases ho : oneB x
  · rw [putE_no hg ho]
    rw [ho] at CA
    clear hg ho h hlen
    go_enter Try.func45, Try.ntmps45
    go_wp2_with (first
      | (go_at_call 60; with_reducible refine (CA.out _).mono ?_; rintro e w2 ⟨rfl, hb2⟩; have HB2 := Lib.hid (blwO hb2 HB1.out); clear hb2)
      | (go_at_call 59; refine CG.out.mono ?_; rintro e w1 ⟨rfl, hb1⟩; have HB1 := Lib.hid (blwO hb1 HB0.out); obtain ⟨x0, x1, x2, x3⟩ := (HX0.out.below hb1).cells; clear hb1))
    go_ret2
    exact ⟨_, rfl, OR.nil _ _, HB2.out⟩
  rw [putE_yes hg ho]
  rw [ho] at CA
  obtain ⟨hg1, hg2⟩ := goodE_iff.1 hg
  have HEQ := Lib.hid (fun (n : Nat) hn => @put_parts l hg2 x ho n hn)
  have HSG := Lib.hid (show soundG (clipG 0 8192 (laidE (l ++ [x]))) from soundG.clip (by rw [laidE_snoc, laid_rail hg2]; exact lay_sound (rail_sound hg2) ho) 0 8192)
  obtain ⟨⟨r1, r2⟩, _⟩ := rail_end hg2
  have HEL := Lib.hid (show endE l = endL l from if_pos hg)
  have oS := midP_one ho
  have oX := oneB_iff.1 ho
  have oT : x.stop = x.off + x.len := rfl
  have H1A := Lib.hid (show ∀ y ∈ l ++ [x], oneB y = true from fun y hy => by
    rcases List.mem_append.1 hy with hy | hy
    · exact rail_one hg2 y hy
    · rw [List.mem_singleton.1 hy]
      exact ho)
  have CE := Lib.hid (fun (W : World) (hb : Below w.heap.size w W) => eEnd_any ao cap l W (HP.out.below hb) HLN.out)
  rw [HEL.out] at CE
  have CD := Lib.hid (fun W => eend_any x oS W)
  have HM := Lib.hid (show (0 : Int) ≤ max (endL l) x.stop ∧ max (endL l) x.stop ≤ 8192 from by omega)
  have CPP := Lib.hid (fun (W : World) (b : Nat) (hF : FE W b 100000 (clipG 0 8192 (laidE (l ++ [x])))) => eparts_any W b 100000 _ (max (endL l) x.stop) (max (endL l) x.stop).toNat (by simp) (by have := HM.out; omega) (by have := HM.out; omega) HSG.out hF)
  rw [HEQ.out (max (endL l) x.stop).toNat (by have := HM.out; omega)] at CPP
  have hlS : (l ++ [x]).length ≤ 65 := by rw [List.length_append]; simp; omega
  have CLY := Lib.hid (fun (W : World) (a : Option Addr) (c : Nat) (hR : PaL W a (l ++ [x])) => elay_any a c (l ++ [x]) 0 8192 W hR hlS H1A.out ⟨by decide, by decide⟩ ⟨by decide, by decide⟩)
  rw [show (l ++ [x]).length = l.length + 1 from by simp] at CLY
  have hCC := Lib.hid (show 1 ≤ l.length + [x].length ∧ l.length + [x].length ≤ 1000 from by simp; omega)
  have HNN := Lib.hid hn
  have hl64 : (l.length : Int) ≤ 64 := by omega
  generalize fewE (gatE (putF (spF l) x) 8192) = R at *
  generalize clipG 0 8192 (laidE (l ++ [x])) = G at *
  generalize endL l = el at *
  have hel : 0 ≤ el ∧ el ≤ 8192 := ⟨r1, r2⟩
  clear hg ho h hlen hg1 hg2 r1 r2 oS hn oT
  go_enter Try.func45, Try.ntmps45
  go_wp2_with (first
    | (go_at_call 61; refine (econcat_any (w2.heap.size + 1) ao (some ⟨w2.heap.size, 0, none⟩) cap 1 l [x] _ (by have h := heap_alloc_new (w2.alloc (.cells #[.int .i64 x.off, .int .i64 x.len, .int .i64 x.addr, .int .i64 x.src] 52)) (.cells #[.slice ao l.length cap, .slice (some ⟨w2.heap.size, 0, none⟩) 1 1] 48); simpa using h) (HP.out.below (blwO (blwA _ _) (blwO (blwA _ _) HB2.out))) HNN.out hc (PaL.below (PtB.row (heap_alloc_new _ _)) (blwA _ _)) (fun e => by cases e) (Nat.le_refl _) hCC.out.1 hCC.out.2).mono ?_; rintro e w3 ⟨v3, rfl, hO, hB⟩; have HO3 := Lib.hid hO; have HB3 := Lib.hid (blwO hB (blwO (blwA _ _) (blwO (blwA _ _) HB2.out))); have HX3 := Lib.hid ((HX2.out.below (blwO (blwA _ _) (blwA _ _))).below hB); obtain ⟨a3, c3, hv, hr3, _⟩ := OR.form par_rows hO; subst hv; have HR3 := Lib.hid hr3; clear hO hB hr3)
    | (go_at_call 60; with_reducible refine (CA.out _).mono ?_; rintro e w2 ⟨rfl, hb2⟩; have HB2 := Lib.hid (blwO hb2 HB1.out); have HX2 := Lib.hid (HX1.out.below hb2); clear x0 x1 x2 x3; obtain ⟨x0, x1, x2, x3⟩ := HX2.out.cells; clear hb2)
    | (go_at_call 59; refine CG.out.mono ?_; rintro e w1 ⟨rfl, hb1⟩; have HB1 := Lib.hid (blwO hb1 HB0.out); have HX1 := Lib.hid (HX0.out.below hb1); obtain ⟨x0, x1, x2, x3⟩ := HX1.out.cells; clear hb1))
  have HW := Lib.hid (fun W (hb : Below w3.heap.size w3 W) => (HX3.out.below hb).cells)
  obtain ⟨z0, z1, z2, z3⟩ := HX3.out.cells
  clear x0 x1 x2 x3
  go_region_held3 (fun W => W.cell? ⟨w.heap.size, 0, none⟩ = some (.int .i64 x.off) ∧ W.cell? ⟨w.heap.size, 1, none⟩ = some (.int .i64 x.len) ∧ W.cell? ⟨w.heap.size, 2, none⟩ = some (.int .i64 x.addr) ∧ W.cell? ⟨w.heap.size, 3, none⟩ = some (.int .i64 x.src))
    (first | exact ⟨z0, z1, z2, z3⟩ | exact HW.out _ HB7.out | exact HW.out _ HB6.out | exact HW.out _ HB5.out | exact HW.out _ HB4.out)
    (first
    | (go_at_call 62; refine (CLY.out _ a3 c3 (HR3.out.below (show Below w3.heap.size w3 w3.drew from (Below.refl _ _).drew))).mono ?_; rintro e w4 ⟨b, rfl, hb4, hF, hB⟩; have HB4 := Lib.hid (blwO hB (show Below w3.heap.size w3 w3.drew from (Below.refl _ _).drew)); have HF4 := Lib.hid hF; clear hF hB)
    | (go_at_call 64; refine (CE.out _ (blwO HB4.out HB3.out)).mono ?_; rintro e w5 ⟨rfl, hB⟩; have HB5 := Lib.hid (blwO hB HB4.out); have HF5 := Lib.hid (HF4.out.below hB); clear hB)
    | (go_at_call 65; refine (CD.out _).mono ?_; rintro e w6 ⟨rfl, hB⟩; have HB6 := Lib.hid (blwO hB HB5.out); have HF6 := Lib.hid (HF5.out.below hB); clear hB)
    | (go_at_call 63; refine (CPP.out _ _ HF6.out).mono ?_; rintro e w7 ⟨v7, rfl, hO, hB⟩; have HB7 := Lib.hid (blwO hB HB6.out); have HO7 := Lib.hid hO; have HS7 := Lib.hid (blwO HB6.out HB3.out).size; obtain ⟨a7, c7, hv7, _⟩ := OR.form par_rows hO; subst hv7; clear hO hB))
  go_wp2_with fail
  go_ret2
  exact ⟨_, rfl, HO7.out.lower HS7.out, blwO HB7.out HB3.out⟩
end Go.Proofs.Ytfkgeefoknaldaa
