/- What the program's layout answers a change, one that may come next and one that may not. Conditions: it and the projection lie where the call was told; no more than 100000 units were noted. What the laws of the layout ask of the program's functions: each one's contract, as a statement (proved where the program is spoken of). No conditions but those that the statements name. -/
import Derived.Test.YtchhmfdalghgcaaGreatG20a
import Derived.Test.YtchhmfdalghgcaaGreatG09a
set_option linter.unusedVariables false
namespace Go.Proofs.YtchhmfdalghgcaaGreat
set_option linter.unusedVariables false
open Go.RowKit Go.Maps
set_option maxRecDepth 20000
set_option maxHeartbeats 1000000 in
theorem lp_turn (b : Nat) (G : Nat → Prop) (w : World) (y : Ly) (h : LB b G w y) (hy : y.L.length ≤ 255 ∧ ∀ c ∈ y.L, c.length ≤ 255) (e : Int) (ao : Option Addr) (cap : Nat) (L : List (List Int)) (hA : ∀ W, Kept (fun k => ¬ G k) w W → CL W ao L) (hL : L.length ≤ 255 ∧ ∀ c ∈ L, c.length ≤ 255) (hu : y.used.length ≤ 100000) (hm : y.may e L = true) :
    Calls Tryz.prog 143 #[ptrL b, .agg #[.int .i64 e, .slice ao L.length cap]] w fun x w' => Tells (LB b) G w ⟨e, L, y.used ++ unitsR L, y.mark, y.size, y.n⟩ (anL 0 e L) x w' := by
  have HS := Lib.hid (boxv_start (lb_thing b) h 29 33 #[.int .i64 e, .slice ao L.length cap] zeroE)
  unfold zeroE at HS
  have HA := Lib.hid hA
  have HY := Lib.hid hy
  have HL := Lib.hid hL
  have HU := Lib.hid hu
  have HM := Lib.hid hm
  have CM := Lib.hid (fun (W : World) H hH hk => lp_may b H W y hH hy e ao cap L (hA W hk) hL)
  rw [hm] at CM
  have CC := Lib.hid (fun (W : World) H hH hk => lp_count b H W y hH e ao cap L hk hL hu)
  have CN := Lib.hid (fun (W : World) H hH => lp_now b H W ⟨e, L, y.used ++ unitsR L, y.mark, y.size, y.n⟩ hH hL)
  unfold ptrL at CM CC CN
  have hbw := h.small
  clear h hA hy hL hu hm
  unfold ptrL
  go_enter Tryz.func143, Tryz.ntmps143
  go_wp2_with (first
    | (go_at_call 145; obtain ⟨H0, hH0, _⟩ := HS.out.use; refine (CM.out _ H0 hH0 HS.out.kp).mono ?_; rintro x w1 ⟨rfl, hb1⟩; have HS1 := Lib.hid (HS.out.below (lb_thing b) hb1); obtain ⟨p0, p1, _⟩ := two_cells HS1.out.ask; obtain ⟨l1, l2⟩ := HS1.out.small; clear hb1 hH0)
    | (go_at_call 54; obtain ⟨H1, hH1, hk1, hU1⟩ := HS1.out.use2; refine (CC.out _ H1 hH1 (fun W hk => HA.out W (hk1 W hk))).mono ?_; rintro x w2 ⟨rfl, hl⟩; have HS2 := Lib.hid (hU1 (LB b) _ _ hl); clear hl hH1 hk1 hU1)
    | (go_at_call 140; obtain ⟨H2, hH2, _, hU2⟩ := HS2.out.use2; refine (CN.out _ H2 hH2).mono ?_; rintro x w3 ⟨v, rfl, hO, hb3⟩; obtain ⟨vo, vc, hv, _⟩ := hO.form; subst hv; have HS3 := Lib.hid (hU2 (Chained (LB b) (fun k => w2.heap.size ≤ k ∧ k < w3.heap.size) (.slice vo L.length vc) L) _ _ (chained_new (lb_thing b) hH2 hb3 hO)); obtain ⟨⟨x0, x1, x2, x3, x4, x5, x6, x7⟩, f0, f1, f2, f3, f4, f5, f6, f7⟩ := eight_cells HS3.out.ans; obtain ⟨m1, m2⟩ := HS3.out.small; clear hO hb3 hH2 hU2))
  exact ans_ret (x := anL 0 e L) (ao := vo) (cap := vc) rfl (eight_all HS3.out.ans _ _ _ _ _ _ _ _) rfl rfl (chained_tells (x := anL 0 e L) (fun k hk => Nat.le_trans HS2.out.kp.size hk.1) (HS3.out.fin (chained_thing (lb_thing b) _ _ _) (eight_stay _ _ _ _ _ _ _ _ _ _)))
set_option maxHeartbeats 1000000 in
theorem lp_stay (b : Nat) (G : Nat → Prop) (w : World) (y : Ly) (h : LB b G w y) (hy : y.L.length ≤ 255 ∧ ∀ c ∈ y.L, c.length ≤ 255) (e : Int) (ao : Option Addr) (cap : Nat) (L : List (List Int)) (hA : ∀ W, Kept (fun k => ¬ G k) w W → CL W ao L) (hL : L.length ≤ 255 ∧ ∀ c ∈ L, c.length ≤ 255) (hm : y.may e L = false) :
    Calls Tryz.prog 143 #[ptrL b, .agg #[.int .i64 e, .slice ao L.length cap]] w fun x w' => Tells (LB b) G w y (anL 48 y.ep y.L) x w' := by
  have HS := Lib.hid (boxv_start (lb_thing b) h 29 33 #[.int .i64 e, .slice ao L.length cap] zeroE)
  unfold zeroE at HS
  have HA := Lib.hid hA
  have HY := Lib.hid hy
  have CM := Lib.hid (fun (W : World) H hH hk => lp_may b H W y hH hy e ao cap L (hA W hk) hL)
  rw [hm] at CM
  have CN := Lib.hid (fun (W : World) H hH => lp_now b H W y hH hy)
  unfold ptrL at CM CN
  have hbw := h.small
  clear h hA hy hL hm
  unfold ptrL
  go_enter Tryz.func143, Tryz.ntmps143
  go_wp2_with (first
    | (go_at_call 145; obtain ⟨H0, hH0, _⟩ := HS.out.use; refine (CM.out _ H0 hH0 HS.out.kp).mono ?_; rintro x w2 ⟨rfl, hb1⟩; have HS2 := Lib.hid (HS.out.below (lb_thing b) hb1); clear hb1 hH0)
    | (go_at_call 140; obtain ⟨H2, hH2, _, hU2⟩ := HS2.out.use2; refine (CN.out _ H2 hH2).mono ?_; rintro x w3 ⟨v, rfl, hO, hb3⟩; obtain ⟨vo, vc, hv, _⟩ := hO.form; subst hv; have HS3 := Lib.hid (hU2 (Chained (LB b) (fun k => w2.heap.size ≤ k ∧ k < w3.heap.size) (.slice vo y.L.length vc) y.L) _ _ (chained_new (lb_thing b) hH2 hb3 hO)); obtain ⟨⟨x0, x1, x2, x3, x4, x5, x6, x7⟩, f0, f1, f2, f3, f4, f5, f6, f7⟩ := eight_cells HS3.out.ans; obtain ⟨m1, m2⟩ := HS3.out.small; clear hO hb3 hH2 hU2))
  exact ans_ret (x := anL 48 y.ep y.L) (ao := vo) (cap := vc) rfl (eight_all HS3.out.ans _ _ _ _ _ _ _ _) rfl rfl (chained_tells (x := anL 48 y.ep y.L) (fun k hk => Nat.le_trans HS2.out.kp.size hk.1) (HS3.out.fin (chained_thing (lb_thing b) _ _ _) (eight_stay _ _ _ _ _ _ _ _ _ _)))
end Go.Proofs.YtchhmfdalghgcaaGreat
namespace Go.Proofs.YtchhmfdalghgcaaGreat
set_option linter.unusedVariables false
open Go.RowKit
set_option maxRecDepth 20000
def fewL (L : List (List Int)) : Prop := L.length ≤ 255 ∧ ∀ c ∈ L, c.length ≤ 255
/-- LG b G w y: in world w block b is the program's layout y; it and all that it owns lie in G. The program's functions return what is said here -/
structure LaySays (LG : Nat → (Nat → Prop) → World → Ly → Prop) : Prop where
  thing : ∀ b, Thing (LG b)
  good : ∀ {b : Nat} {G : Nat → Prop} {w : World} {y : Ly}, LG b G w y → goodB y.ep y.L = true
  new_no : ∀ (ep : Int) (ao : Option Addr) (cap : Nat) (L : List (List Int)) (w : World), CL w ao L → fewL L → goodB ep L = false → Calls Tryz.prog 37 #[.agg #[.int .i64 ep, .slice ao L.length cap]] w fun e w' => e = .returned (.tuple #[.pointer none, .int .i64 11]) ∧ Below w.heap.size w w'
  new_yes : ∀ (ep : Int) (ao : Option Addr) (cap : Nat) (L : List (List Int)) (w : World), CL w ao L → fewL L → goodB ep L = true → Calls Tryz.prog 37 #[.agg #[.int .i64 ep, .slice ao L.length cap]] w fun e w' => ∃ (b : Nat) (G : Nat → Prop), e = .returned (.tuple #[ptrL b, .int .i64 0]) ∧ LG b G w' (newL ep L) ∧ (∀ k, G k → w.heap.size ≤ k) ∧ Below w.heap.size w w'
  ask : ∀ (b : Nat) (G : Nat → Prop) (w : World) (y : Ly) (a : Ak), LG b G w y → AkOk a → fewL a.L → y.used.length ≤ 100000 → (∀ W, Kept (fun k => ¬ G k) w W → CL W a.ao a.L) → Calls Tryz.prog 139 #[ptrL b, askV a] w fun e w' => Tells (LG b) G w (y.done a) (y.ans a) e w'
  now : ∀ (b : Nat) (G : Nat → Prop) (w : World) (y : Ly), LG b G w y → Calls Tryz.prog 140 #[ptrL b] w fun e w' => ∃ v, e = .returned (.agg #[.int .i64 y.ep, v]) ∧ OC w' w.heap.size v y.L ∧ Below w.heap.size w w'
  nil_ask : ∀ (w : World) (a : Ak), AkIn w a → Calls Tryz.prog 139 #[.pointer none, askV a] w fun e w' => e = .returned (ansV (anP 1 0 noL 0) none 0) ∧ Below w.heap.size w w'
  nil_now : ∀ (w : World), Calls Tryz.prog 140 #[.pointer none] w fun e w' => ∃ ep v, e = .returned (.agg #[.int .i64 ep, v]) ∧ OC w' w.heap.size v [] ∧ Below w.heap.size w w'
section
variable {LG : Nat → (Nat → Prop) → World → Ly → Prop} {X : Nat → Prop} {w : World} {b : Nat} {y : Ly}
end
end Go.Proofs.YtchhmfdalghgcaaGreat
