/- What the statements' own small functions LargeAsk and Answer return. Conditions: what is handed over lies where the call was told; the two answers are alike. What the laws of the layout ask of the program's functions: each one's contract, as a statement (proved where the program is spoken of). No conditions but those that the statements name. That layout is awake: the laws' own example. Conditions: the program's functions return what LaySays says. -/
import Derived.Test.YthfbefkddnbbcaaAskIn
import Derived.Test.YthfbefkddnbbcaaPrjD
import Derived.Test.YthfbefkddnbbcaaLayK
set_option linter.unusedVariables false
namespace Go.Proofs.Ythfbefkddnbbcaa
set_option linter.unusedVariables false
open Go.RowKit
set_option maxRecDepth 20000
/-- is a question too large to be gone through? -/
def largeA (a : Ak) : Bool := decide (6000 < a.data.size) || largeB a.L
theorem largeA_no {a : Ak} (h : largeA a = false) : a.data.size ≤ 6000 ∧ a.L.length ≤ 50 ∧ ∀ c ∈ a.L, c.length ≤ 50 := by
  unfold largeA at h
  rw [Bool.or_eq_false_iff] at h
  have h1 := of_decide_eq_false h.1
  exact ⟨by omega, largeB_no h.2⟩
set_option maxHeartbeats 2000000 in
theorem largeAsk_any (a : Ak) (w : World) (h : AkIn w a) :
    Calls Try.prog 24 #[askV a] w fun e w' => e = .returned (.bool (largeA a)) ∧ Below w.heap.size w w' := by
  obtain ⟨⟨_, _, _, _, _, _, hd, _, hl, hm, _, _⟩, hC⟩ := h
  obtain ⟨k, u, ep, pg, sz, n, s, pe, L, ao, cap⟩ := a
  simp only at hd hl hm hC
  have HB0 := Lib.hid ((Below.refl w.heap.size w).alloc (Nat.le_refl _) (.cells #[.int .i64 k, .int .i64 u, .int .i64 ep, .int .i64 pg, .int .i64 sz, .int .i64 n, .string s, .int .i64 pe, .slice ao L.length cap] 38))
  have CL1 := Lib.hid (large_any pe ao cap L _ (hC.below HB0.out) hl hm)
  unfold maxLen at hd
  have hs' : (s.size : Int) ≤ 9223372036854775807 := by omega
  show Calls _ _ #[.agg #[.int .i64 k, .int .i64 u, .int .i64 ep, .int .i64 pg, .int .i64 sz, .int .i64 n, .string s, .int .i64 pe, .slice ao L.length cap]] w _
  by_cases hb : 6000 < s.size
  · have hb' : (6000 : Int) < (s.size : Int) := by omega
    rw [show largeA ⟨k, u, ep, pg, sz, n, s, pe, L, ao, cap⟩ = true from by unfold largeA; rw [decide_eq_true hb]; rfl]
    clear hl hm hC hd hb
    go_enter Try.func24, Try.ntmps24
    go_wp2_with fail
    go_ret
    exact ⟨rfl, HB0.out⟩
  · have hb' : decide ((6000 : Int) < (s.size : Int)) = false := decide_eq_false (by omega)
    rw [show largeA ⟨k, u, ep, pg, sz, n, s, pe, L, ao, cap⟩ = largeB L from by unfold largeA; rw [decide_eq_false hb]; rfl]
    clear hl hm hC hd hb
    go_enter Try.func24, Try.ntmps24
    go_wp2_with (go_at_call 6; refine CL1.out.mono ?_; rintro e w1 ⟨rfl, hb1⟩)
    go_ret
    exact ⟨rfl, HB0.out.trans (hb1.mono HB0.out.size)⟩
set_option maxHeartbeats 4000000 in
theorem answer_same (x : An) (ao bo : Option Addr) (ca cb : Nat) (w : World) (hA : CL w ao x.L) (hB : CL w bo x.L) (hl : x.L.length ≤ 1000000 ∧ ∀ c ∈ x.L, c.length ≤ 1000000) :
    Calls Try.prog 12 #[ansV x ao ca, ansV x bo cb] w fun e w' => e = .returned (.bool true) ∧ Below w.heap.size w w' := by
  obtain ⟨c, n, s, pe, L, mk, sz, ep⟩ := x
  simp only at hA hB hl
  have HB0 := Lib.hid (((Below.refl w.heap.size w).alloc (Nat.le_refl _) (.cells #[.int .i64 c, .int .i64 n, .string s, .int .i64 pe, .slice ao L.length ca, .int .i64 mk, .int .i64 sz, .int .i64 ep] 41)).alloc (by simp) (.cells #[.int .i64 c, .int .i64 n, .string s, .int .i64 pe, .slice bo L.length cb, .int .i64 mk, .int .i64 sz, .int .i64 ep] 41))
  have CP := Lib.hid (keepProj_any pe ao ca L pe bo cb L _ (hA.below HB0.out) (hB.below HB0.out) hl hl)
  have HS := Lib.hid (show sameP pe L pe L = true from decide_eq_true ⟨rfl, rfl⟩)
  rw [HS.out] at CP
  have HX := Lib.hid (two_blocks w #[.int .i64 c, .int .i64 n, .string s, .int .i64 pe, .slice ao L.length ca, .int .i64 mk, .int .i64 sz, .int .i64 ep] #[.int .i64 c, .int .i64 n, .string s, .int .i64 pe, .slice bo L.length cb, .int .i64 mk, .int .i64 sz, .int .i64 ep] 41 41)
  clear hA hB hl
  show Calls _ _ #[.agg #[.int .i64 c, .int .i64 n, .string s, .int .i64 pe, .slice ao L.length ca, .int .i64 mk, .int .i64 sz, .int .i64 ep], .agg #[.int .i64 c, .int .i64 n, .string s, .int .i64 pe, .slice bo L.length cb, .int .i64 mk, .int .i64 sz, .int .i64 ep]] w _
  go_enter Try.func12, Try.ntmps12
  go_wp2_with (go_at_call 15; refine CP.out.mono ?_; rintro e w1 ⟨rfl, hb1⟩; have X1 := below_heap hb1 HX.out.1; have X2 := below_heap hb1 HX.out.2; have HB1 := Lib.hid (HB0.out.trans (hb1.mono HB0.out.size)); have a5 := cell_of X1 5; have a6 := cell_of X1 6; have a7 := cell_of X1 7; have b5 := cell_of X2 5; have b6 := cell_of X2 6; have b7 := cell_of X2 7; clear X1 X2 hb1)
  go_ret
  exact ⟨rfl, HB1.out⟩
end Go.Proofs.Ythfbefkddnbbcaa
namespace Go.Proofs.Ythfbefkddnbbcaa
set_option linter.unusedVariables false
open Go.RowKit
set_option maxRecDepth 20000
def fewL (L : List (List Int)) : Prop := L.length ≤ 255 ∧ ∀ c ∈ L, c.length ≤ 255
/-- LG b G w y: in world w block b is the program's layout y; it and all that it owns lie in G. The program's functions return what is said here -/
structure LaySays (LG : Nat → (Nat → Prop) → World → Ly → Prop) : Prop where
  thing : ∀ b, Thing (LG b)
  good : ∀ {b : Nat} {G : Nat → Prop} {w : World} {y : Ly}, LG b G w y → goodB y.ep y.L = true
  new_no : ∀ (ep : Int) (ao : Option Addr) (cap : Nat) (L : List (List Int)) (w : World), CL w ao L → fewL L → goodB ep L = false → Calls Try.prog 9 #[.agg #[.int .i64 ep, .slice ao L.length cap]] w fun e w' => e = .returned (.tuple #[.pointer none, .int .i64 11]) ∧ Below w.heap.size w w'
  new_yes : ∀ (ep : Int) (ao : Option Addr) (cap : Nat) (L : List (List Int)) (w : World), CL w ao L → fewL L → goodB ep L = true → Calls Try.prog 9 #[.agg #[.int .i64 ep, .slice ao L.length cap]] w fun e w' => ∃ (b : Nat) (G : Nat → Prop), e = .returned (.tuple #[ptrL b, .int .i64 0]) ∧ LG b G w' (newL ep L) ∧ (∀ k, G k → w.heap.size ≤ k) ∧ Below w.heap.size w w'
  ask : ∀ (b : Nat) (G : Nat → Prop) (w : World) (y : Ly) (a : Ak), LG b G w y → AkOk a → fewL a.L → y.used.length ≤ 100000 → (∀ W, Kept (fun k => ¬ G k) w W → CL W a.ao a.L) → Calls Try.prog 13 #[ptrL b, askV a] w fun e w' => Tells (LG b) G w (y.done a) (y.ans a) e w'
  now : ∀ (b : Nat) (G : Nat → Prop) (w : World) (y : Ly), LG b G w y → Calls Try.prog 16 #[ptrL b] w fun e w' => ∃ v, e = .returned (.agg #[.int .i64 y.ep, v]) ∧ OC w' w.heap.size v y.L ∧ Below w.heap.size w w'
  used : ∀ (b : Nat) (G : Nat → Prop) (w : World) (y : Ly), LG b G w y → y.used.length ≤ 3000 → Calls Try.prog 18 #[ptrL b] w fun e w' => ∃ v, e = .returned v ∧ OI w' w.heap.size v (unitsR [y.used]) ∧ Below w.heap.size w w'
  nil_ask : ∀ (w : World) (a : Ak), AkIn w a → Calls Try.prog 13 #[.pointer none, askV a] w fun e w' => e = .returned (ansV (anP 1 0 noL 0) none 0) ∧ Below w.heap.size w w'
  nil_now : ∀ (w : World), Calls Try.prog 16 #[.pointer none] w fun e w' => ∃ ep v, e = .returned (.agg #[.int .i64 ep, v]) ∧ OC w' w.heap.size v [] ∧ Below w.heap.size w w'
  nil_used : ∀ (w : World), Calls Try.prog 18 #[.pointer none] w fun e w' => ∃ v, e = .returned v ∧ OI w' w.heap.size v [] ∧ Below w.heap.size w w'
/-- a question for a layout: its chains lie in memory of their own -/
def akL (kind page size n pe : Int) (L : List (List Int)) (ao : Option Addr) (cap : Nat) : Ak := ⟨kind, 0, 0, page, size, n, ⟨#[]⟩, pe, L, ao, cap⟩
theorem akL_ok {kind page size n pe : Int} {L : List (List Int)} {ao : Option Addr} {cap : Nat} (h0 : i64w kind) (h1 : i64w page) (h2 : i64w size) (h3 : i64w n) (h4 : i64w pe) (hL : fewL L) (hn : ao = none → cap = 0) (hc : L.length ≤ cap) : AkOk (akL kind page size n pe L ao cap) :=
  ⟨h0, WalkArith.wf_i64 (n := 0) (by decide), WalkArith.wf_i64 (n := 0) (by decide), h1, h2, h3, Nat.zero_le _, h4, by have := hL.1; show L.length ≤ maxLen; unfold maxLen; omega, fun c hc2 => by have := hL.2 c hc2; unfold maxLen; omega, hn, hc⟩
section
variable {LG : Nat → (Nat → Prop) → World → Ly → Prop} {X : Nat → Prop} {w : World} {b : Nat} {y : Ly}
theorem l_new (HS : LaySays LG) {ep : Int} {ao : Option Addr} {cap : Nat} {L : List (List Int)} (h : CL w ao L) (hl : fewL L) (hg : goodB ep L = true) :
    Calls Try.prog 9 #[.agg #[.int .i64 ep, .slice ao L.length cap]] w fun e w' => ∃ b, e = .returned (.tuple #[ptrL b, .int .i64 0]) ∧ Solo (LG b) (fun k => k < w.heap.size) w' (newL ep L) ∧ Below w.heap.size w w' := by
  refine (HS.new_yes ep ao cap L w h hl hg).mono ?_
  rintro e w' ⟨b, G, he, h1, h2, h3⟩
  exact ⟨b, he, ⟨fun k hk => Nat.lt_of_lt_of_le hk h3.size, G, h1, fun k hk hg => by have := h2 k hg; omega⟩, h3⟩
theorem l_ask (HS : LaySays LG) (h : Solo (LG b) X w y) {a : Ak} (ho : AkOk a) (hL : fewL a.L) (hu : y.used.length ≤ 100000) (hA : ∀ W, Kept X w W → CL W a.ao a.L) :
    Calls Try.prog 13 #[ptrL b, askV a] w fun e w' => ∃ (ao : Option Addr) (cap : Nat) (F : Nat → Prop), e = .returned (ansV (y.ans a) ao cap) ∧ CG F w' (.slice ao (y.ans a).L.length cap) (y.ans a).L ∧ Solo (LG b) (fun k => X k ∨ F k) w' (y.done a) ∧ Kept X w w' :=
  solo_tells (HS.thing b) h (fun F hF hX => HS.ask b F w y a hF ho hL hu (fun W hk => hA W (hk.mono hX)))
theorem l_good (HS : LaySays LG) (h : Solo (LG b) X w y) : goodB y.ep y.L = true := by
  obtain ⟨_, F, hF, _⟩ := h
  exact HS.good hF
theorem l_now (HS : LaySays LG) (h : Solo (LG b) X w y) : Calls Try.prog 16 #[ptrL b] w fun e w' => ∃ v, e = .returned (.agg #[.int .i64 y.ep, v]) ∧ OC w' w.heap.size v y.L ∧ Below w.heap.size w w' := by
  obtain ⟨_, F, hF, _⟩ := h
  exact HS.now b F w y hF
theorem l_used (HS : LaySays LG) (h : Solo (LG b) X w y) (hu : y.used.length ≤ 3000) : Calls Try.prog 18 #[ptrL b] w fun e w' => ∃ v, e = .returned v ∧ OI w' w.heap.size v (unitsR [y.used]) ∧ Below w.heap.size w w' := by
  obtain ⟨_, F, hF, _⟩ := h
  exact HS.used b F w y hF hu
end
end Go.Proofs.Ythfbefkddnbbcaa
namespace Go.Proofs.Ythfbefkddnbbcaa
set_option linter.unusedVariables false
open Go.RowKit
set_option maxRecDepth 20000
/-- one chain of two units, as the law lays it out -/
def litW (w : World) (u v : Int) : World := (w.alloc (.cells #[.int .i64 u, .int .i64 v] 3)).alloc (.cells #[.slice (some ⟨w.heap.size, 0, none⟩) 2 2] 45)
theorem lit_size (w : World) (u v : Int) : (litW w u v).heap.size = w.heap.size + 2 := by simp [litW]
theorem lit_below (w : World) (u v : Int) : Below w.heap.size w (litW w u v) := (below_new _ _).alloc (by simp) _
theorem lit_chain (w : World) {u v : Int} (hu : i64w u) (hv : i64w v) : CG (fun k => w.heap.size ≤ k ∧ k < (litW w u v).heap.size) (litW w u v) (.slice (some ⟨w.heap.size + 1, 0, none⟩) 1 1) [[u, v]] := by
  obtain ⟨h1, h2⟩ := two_blocks w #[.int .i64 u, .int .i64 v] #[.slice (some ⟨w.heap.size, 0, none⟩) 2 2] 3 45
  have hs := lit_size w u v
  refine ⟨some ⟨w.heap.size + 1, 0, none⟩, 1, rfl, fun e => (by cases e), Nat.le_refl _, fun a e => ?_, fun i hi => ?_⟩
  · cases e
    exact ⟨⟨Nat.le_succ _, by show w.heap.size + 1 < _; omega⟩, by show w.heap.size + 1 < _; omega⟩
  · match i, hi with
    | 0, _ =>
      refine ⟨w.heap.size + 1, 0, some ⟨w.heap.size, 0, none⟩, 2, rfl, cell_of h2 0, ⟨fun j hj => ?_, fun e => (by cases e), Nat.le_refl _⟩, fun a e => ?_⟩
      · match j, hj with
        | 0, _ => exact ⟨⟨w.heap.size, 0, rfl, cell_of h1 0⟩, hu⟩
        | 1, _ => exact ⟨⟨w.heap.size, 0, rfl, cell_of h1 1⟩, hv⟩
      · cases e
        exact ⟨⟨Nat.le_refl _, by show w.heap.size < _; omega⟩, by show w.heap.size < _; omega⟩
def exL0 : Ly := newL 0 [[0, 1]]
def exA1 : Ak := akL 10 0 0 0 1 [[0, 2]] none 0
def exL1 : Ly := exL0.done exA1
def exA2 : Ak := akL 10 0 0 0 2 [[0, 1]] none 0
def exL2 : Ly := exL1.done exA2
def exA3 : Ak := akL 11 3 9 2 0 [] none 0
def exL3 : Ly := exL2.done exA3
def exA4 : Ak := akL 11 7 9 2 0 [] none 0
def exL4 : Ly := exL3.done exA4
theorem exL_facts : goodB 0 [[0, 1]] = true ∧ (exL0.ans exA1).code = 0 ∧ (exL1.ans exA2).code = 48 ∧ (exL1.ans exA2).pe = 1 ∧ (exL2.ans exA3).mark = 3 ∧ (exL3.ans exA4).mark = 3 ∧ (unitsR [exL4.used]).length = 3 := by decide +kernel
theorem exL_few : exL0.used.length ≤ 100 ∧ exL1.used.length ≤ 100 ∧ exL2.used.length ≤ 100 ∧ exL3.used.length ≤ 100 ∧ exL4.used.length ≤ 100 := by decide +kernel
theorem few_two (u v : Int) : fewL [[u, v]] := ⟨by simp, fun c hc => by rw [List.mem_singleton.1 hc]; simp⟩
theorem few_nil : fewL [] := ⟨Nat.zero_le _, fun c hc => (by cases hc)⟩
section
variable {LG : Nat → (Nat → Prop) → World → Ly → Prop} {X : Nat → Prop} {w : World} {b : Nat} {y : Ly}
/-- a change to one chain of two units, that the law lays out -/
theorem l_change (HS : LaySays LG) (h : Solo (LG b) X w y) (hu : y.used.length ≤ 100) {u v pe : Int} (h0 : i64w u) (h1 : i64w v) (h2 : i64w pe) {n : Nat} (hn : w.heap.size = n) :
    Calls Try.prog 13 #[.pointer (some ⟨b, 0, none⟩), .agg #[.int .i64 10, .int .i64 0, .int .i64 0, .int .i64 0, .int .i64 0, .int .i64 0, .string ⟨#[]⟩, .int .i64 pe, .slice (some ⟨n + 1, 0, none⟩) 1 1]] ((w.alloc (.cells #[.int .i64 u, .int .i64 v] 3)).alloc (.cells #[.slice (some ⟨n, 0, none⟩) 2 2] 45)) fun e w' => ∃ (s : ByteArray) (q0 q1 q2 q3 : Int) (vo : Option Addr) (vn vc : Nat),
      e = .returned (.agg #[.int .i64 (y.ans (akL 10 0 0 0 pe [[u, v]] none 0)).code, .int .i64 q0, .string s, .int .i64 (y.ans (akL 10 0 0 0 pe [[u, v]] none 0)).pe, .slice vo vn vc, .int .i64 q1, .int .i64 q2, .int .i64 q3]) ∧ Solo (LG b) X w' (y.done (akL 10 0 0 0 pe [[u, v]] none 0)) ∧ Kept X w w' := by
  subst hn
  have hs := h.wider (HS.thing b) (lit_below w u v)
  have hl := lit_chain w h0 h1
  refine (l_ask HS hs (a := akL 10 0 0 0 pe [[u, v]] (some ⟨w.heap.size + 1, 0, none⟩) 1) (akL_ok (WalkArith.wf_i64 (n := 10) (by decide)) (WalkArith.wf_i64 (n := 0) (by decide)) (WalkArith.wf_i64 (n := 0) (by decide)) (WalkArith.wf_i64 (n := 0) (by decide)) h2 (few_two u v) (fun e => by cases e) (Nat.le_refl _)) (few_two u v) (by omega) (fun W hk => (hl.keep hk (fun k hk => .inr hk)).here.1)).mono ?_
  rintro e w' ⟨ao, cap, F, rfl, _, h3, h4⟩
  exact ⟨_, _, _, _, _, _, _, _, rfl, h3.less (fun k hk => .inl (.inl hk)), (Kept.ofBelow (lit_below w u v) X).trans (h4.mono (fun k hk => .inl hk))⟩
/-- an image is marked -/
theorem l_mark (HS : LaySays LG) (h : Solo (LG b) X w y) (hu : y.used.length ≤ 100) {p z n : Int} (h0 : i64w p) (h1 : i64w z) (h2 : i64w n) :
    Calls Try.prog 13 #[.pointer (some ⟨b, 0, none⟩), .agg #[.int .i64 11, .int .i64 0, .int .i64 0, .int .i64 p, .int .i64 z, .int .i64 n, .string ⟨#[]⟩, .int .i64 0, .slice none 0 0]] w fun e w' => ∃ (s : ByteArray) (q0 q1 q2 q3 q4 : Int) (vo : Option Addr) (vn vc : Nat),
      e = .returned (.agg #[.int .i64 q4, .int .i64 q0, .string s, .int .i64 q1, .slice vo vn vc, .int .i64 (y.ans (akL 11 p z n 0 [] none 0)).mark, .int .i64 q2, .int .i64 q3]) ∧ Solo (LG b) X w' (y.done (akL 11 p z n 0 [] none 0)) ∧ Kept X w w' := by
  refine (l_ask HS h (a := akL 11 p z n 0 [] none 0) (akL_ok (WalkArith.wf_i64 (n := 11) (by decide)) h0 h1 h2 (WalkArith.wf_i64 (n := 0) (by decide)) few_nil (fun _ => rfl) (Nat.le_refl _)) few_nil (by omega) (fun W hk => CL.nil _ _)).mono ?_
  rintro e w' ⟨ao, cap, F, rfl, _, h3, h4⟩
  exact ⟨_, _, _, _, _, _, _, _, _, rfl, h3.less (fun k hk => .inl hk), h4⟩
end
set_option maxHeartbeats 8000000 in
theorem wakes12_any {LG : Nat → (Nat → Prop) → World → Ly → Prop} (HS : LaySays LG) (w : World) : Calls Try.prog 8 #[] w fun e w' => e = .returned (.bool true) ∧ Below w.heap.size w w' := by
  have FA := Lib.hid exL_facts
  have FF := Lib.hid exL_few
  have ZZ := Lib.hid (fun (x : Int) (h : 0 ≤ x ∧ x ≤ 9) => show i64w x from WalkArith.wf_i64 (by omega))
  have TT := Lib.hid (fun b => HS.thing b)
  have CN := Lib.hid (l_new HS (lit_chain w (u := 0) (v := 1) (ZZ.out 0 (by omega)) (ZZ.out 1 (by omega))).here.1 (few_two 0 1) FA.out.1 (cap := 1))
  unfold ptrL at CN
  go_enter Try.func8, Try.ntmps8
  go_wp2_with (go_at_call 9; refine CN.out.mono ?_; rintro e w1 ⟨b, rfl, hu1, hb1⟩; have B1 := Lib.hid ((lit_below w 0 1).trans (hb1.mono (lit_below w 0 1).size)); have U1 := Lib.hid (show Solo (LG b) (fun k => k < w.heap.size) w1 exL0 from hu1.less (fun k hk => Nat.lt_of_lt_of_le hk (lit_below w 0 1).size)); clear hu1 hb1)
  refine (l_change HS U1.out FF.out.1 (u := 0) (v := 2) (pe := 1) (ZZ.out 0 (by omega)) (ZZ.out 2 (by omega)) (ZZ.out 1 (by omega)) (n := w1.heap.size) rfl).mono ?_
  rintro e w2 ⟨sa, a0, a1, a2, a3, ao, an, ac', rfl, hu2, hk2⟩
  rw [show (exL0.ans (akL 10 0 0 0 1 [[0, 2]] none 0)).code = 0 from FA.out.2.1]
  have U2 := Lib.hid (show Solo (LG b) (fun k => k < w.heap.size) w2 exL1 from hu2)
  have B2 := Lib.hid (B1.out.trans (hk2.toBelow B1.out.size (fun k h => h)))
  clear hu2 hk2 U1
  generalize (exL0.ans (akL 10 0 0 0 1 [[0, 2]] none 0)).pe = ap
  go_wp2_with fail
  refine (l_change HS (U2.out.beside (TT.out b) _) FF.out.2.1 (u := 0) (v := 1) (pe := 2) (ZZ.out 0 (by omega)) (ZZ.out 1 (by omega)) (ZZ.out 2 (by omega)) (n := w2.heap.size + 1) (by simp)).mono ?_
  rintro e w3 ⟨sb, b0, b1, b2, b3, bo, bn, bc', rfl, hu3, hk3⟩
  rw [show (exL1.ans (akL 10 0 0 0 2 [[0, 1]] none 0)).code = 48 from FA.out.2.2.1, show (exL1.ans (akL 10 0 0 0 2 [[0, 1]] none 0)).pe = 1 from FA.out.2.2.2.1]
  have U3 := Lib.hid (show Solo (LG b) (fun k => k < w.heap.size ∨ k = w2.heap.size) w3 exL2 from hu3)
  have B3 := Lib.hid ((B2.out.alloc B2.out.size _).trans (hk3.toBelow (by have := B2.out.size; simp; omega) (fun k h => .inl h)))
  have P3 := Lib.hid (hk3.heap (b := w2.heap.size) (Or.inr rfl) (heap_alloc_new w2 _))
  clear hu3 hk3 U2
  go_wp2_with fail
  refine (l_mark HS (U3.out.beside (TT.out b) _) FF.out.2.2.1 (p := 3) (z := 9) (n := 2) (ZZ.out 3 (by omega)) (ZZ.out 9 (by omega)) (ZZ.out 2 (by omega))).mono ?_
  rintro e w4 ⟨sc, c0, c1, c2, c3, c4, co, cn, cc', rfl, hu4, hk4⟩
  rw [show (exL2.ans (akL 11 3 9 2 0 [] none 0)).mark = 3 from FA.out.2.2.2.2.1]
  have U4 := Lib.hid (show Solo (LG b) (fun k => (k < w.heap.size ∨ k = w2.heap.size) ∨ k = w3.heap.size) w4 exL3 from hu4)
  have B4 := Lib.hid ((B3.out.alloc B3.out.size _).trans (hk4.toBelow (by have := B3.out.size; simp; omega) (fun k h => .inl (.inl h))))
  have P4 := Lib.hid (hk4.heap (b := w2.heap.size) (Or.inl (Or.inr rfl)) (below_heap (below_new _ _) P3.out))
  have Q4 := Lib.hid (hk4.heap (b := w3.heap.size) (Or.inr rfl) (heap_alloc_new w3 _))
  clear hu4 hk4 U3 P3
  go_wp2_with fail
  refine (l_mark HS (U4.out.beside (TT.out b) _) FF.out.2.2.2.1 (p := 7) (z := 9) (n := 2) (ZZ.out 7 (by omega)) (ZZ.out 9 (by omega)) (ZZ.out 2 (by omega))).mono ?_
  rintro e w5 ⟨sd, d0, d1, d2, d3, d4, dz, dn, dc', rfl, hu5, hk5⟩
  rw [show (exL3.ans (akL 11 7 9 2 0 [] none 0)).mark = 3 from FA.out.2.2.2.2.2.1]
  have U5 := Lib.hid (show Solo (LG b) (fun k => ((k < w.heap.size ∨ k = w2.heap.size) ∨ k = w3.heap.size) ∨ k = w4.heap.size) w5 exL4 from hu5)
  have B5 := Lib.hid ((B4.out.alloc B4.out.size _).trans (hk5.toBelow (by have := B4.out.size; simp; omega) (fun k h => .inl (.inl (.inl h)))))
  have p5 := hk5.heap (b := w2.heap.size) (Or.inl (Or.inl (Or.inr rfl))) (below_heap (below_new _ _) P4.out)
  have q5 := hk5.heap (b := w3.heap.size) (Or.inl (Or.inr rfl)) (below_heap (below_new _ _) Q4.out)
  have r5 := hk5.heap (b := w4.heap.size) (Or.inr rfl) (heap_alloc_new w4 _)
  have lp := lt_of_block p5
  have lq := lt_of_block q5
  have lr := lt_of_block r5
  have p0 := cell_of p5 0
  have q0 := cell_of q5 0
  have q3 := cell_of q5 3
  have r4 := cell_of r5 5
  have U6 := Lib.hid (U5.out.below (TT.out b) (below_new w5 (.cells #[.int .i64 d4, .int .i64 d0, .string sd, .int .i64 d1, .slice dz dn dc', .int .i64 3, .int .i64 d2, .int .i64 d3] 41)))
  have CU := Lib.hid (l_used HS U6.out (Nat.le_trans FF.out.2.2.2.2 (by decide)))
  have B6 := Lib.hid (B5.out.alloc B5.out.size (.cells #[.int .i64 d4, .int .i64 d0, .string sd, .int .i64 d1, .slice dz dn dc', .int .i64 3, .int .i64 d2, .int .i64 d3] 41))
  clear hu5 hk5 U4 P4 Q4 p5 q5 r5 U5
  unfold ptrL at CU
  go_wp2_with (go_at_call 18; refine CU.out.mono ?_; rintro e w6 ⟨v, rfl, hO, hb6⟩; obtain ⟨vo, vc, hv, _⟩ := hO.form; rw [FA.out.2.2.2.2.2.2] at hv; subst hv; have B7 := Lib.hid (B6.out.trans (hb6.mono B6.out.size)); clear hO hb6)
  go_ret
  exact ⟨rfl, B7.out⟩
end Go.Proofs.Ythfbefkddnbbcaa
