/- All that the laws of all nodes ask of the program. Conditions: units, sequencer and layout are as the statements of their own stages say. -/
import Derived.Test.YtphigibhgldnpaaG26a
import Derived.Test.YtphigibhgldnpaaG25a
import Derived.Test.YtphigibhgldnpaaG13b
set_option linter.unusedVariables false
namespace Go.Proofs.Ytphigibhgldnpaa
set_option linter.unusedVariables false
open Go.RowKit
set_option maxRecDepth 20000
/-- block r is the program's nodes, by a table that is told -/
def RT (UG : Nat → Nat → (Nat → Prop) → World → Us → Prop) (OG : Nat → (Nat → Prop) → World → Od → Prop) (LG : Nat → (Nat → Prop) → World → Ly → Prop) (r : Nat) (A : Array Value) (ro rl : Nat) (B : Nat → Nat × Nat) (G : Nat → Prop) (w : World) (n : Nd) : Prop := TabP A 16 B ro rl ∧ BundG 19 (nodeP UG OG LG r A ro rl B n) G w
section
variable {UG : Nat → Nat → (Nat → Prop) → World → Us → Prop} {OG : Nat → (Nat → Prop) → World → Od → Prop} {LG : Nat → (Nat → Prop) → World → Ly → Prop} {r : Nat} {A : Array Value} {ro rl : Nat} {B : Nat → Nat × Nat} {n : Nd} {G : Nat → Prop} {w : World}
theorem rt_thing (HT : Three UG OG LG) (r : Nat) (A : Array Value) (ro rl : Nat) (B : Nat → Nat × Nat) : Thing (RT UG OG LG r A ro rl B) where
  lt := by
    rintro G w n ⟨h1, h2⟩
    exact h2.lt (fun i _ => nodeP_part HT r A ro rl B n i)
  keep := by
    rintro G S w w' n ⟨h1, h2⟩ hk hS
    exact ⟨h1, h2.keep (fun i _ => nodeP_part HT r A ro rl B n i) hk hS⟩
theorem RT.rm (h : RT UG OG LG r A ro rl B G w n) : RM UG OG LG r G w n := ⟨A, ro, rl, B, h⟩
theorem RM.rt (h : RM UG OG LG r G w n) : ∃ A ro rl B, RT UG OG LG r A ro rl B G w n := h
theorem rt_putL (h1 : TabP A 16 B ro rl) {y : Ly} {G' : Nat → Prop} {W : World} (h : BundG 19 (swapP (nodeP UG OG LG r A ro rl B n) 0 (fun F W => LG rl F W y)) G' W) : RT UG OG LG r A ro rl B G' W (n.putL y) :=
  ⟨h1, h.same (fun i _ F W hF => by match i, hF with | 0, hF => exact hF | 1, hF => exact hF | 2, hF => exact hF | j + 3, hF => exact hF)⟩
theorem rt_putO (h1 : TabP A 16 B ro rl) {o : Od} {G' : Nat → Prop} {W : World} (h : BundG 19 (swapP (nodeP UG OG LG r A ro rl B n) 1 (fun F W => OG ro F W o)) G' W) : RT UG OG LG r A ro rl B G' W (n.putO o) :=
  ⟨h1, h.same (fun i _ F W hF => by match i, hF with | 0, hF => exact hF | 1, hF => exact hF | 2, hF => exact hF | j + 3, hF => exact hF)⟩
theorem rt_putU (h1 : TabP A 16 B ro rl) {k : Nat} {u : Us} {G' : Nat → Prop} {W : World} (h : BundG 19 (swapP (nodeP UG OG LG r A ro rl B n) (k + 3) (fun F W => UG (B k).1 (B k).2 F W u)) G' W) : RT UG OG LG r A ro rl B G' W (n.putU k u) := by
  refine ⟨h1, h.same (fun i _ F W hF => ?_)⟩
  match i, hF with
  | 0, hF => exact hF
  | 1, hF => exact hF
  | 2, hF => exact hF
  | j + 3, hF =>
    unfold swapP at hF
    by_cases e : j = k
    · subst e
      rw [if_pos rfl] at hF
      show UG _ _ F W ((n.putU j u).u j)
      rw [putU_at]
      exact hF
    · rw [if_neg (by omega)] at hF
      show UG _ _ F W ((n.putU k u).u j)
      rw [putU_off n u e]
      exact hF
theorem RT.block (h : RT UG OG LG r A ro rl B G w n) : w.heap[r]? = some (.cells A 55 (0, 0)) ∧ G r := by
  obtain ⟨F, h3, h4⟩ := h.2.look (i := 2) (by omega)
  exact ⟨h3.1, h4 r ((h3.2 r).2 rfl)⟩
theorem RT.atU (h : RT UG OG LG r A ro rl B G w n) {i : Nat} (hi : i < 16) : w.cell? ⟨r, i, none⟩ = some (.pointer (some ⟨(B i).1, 0, none⟩)) := (cell_of h.block.1 i).trans (h.1.at_ i hi)
theorem RT.atO (h : RT UG OG LG r A ro rl B G w n) : w.cell? ⟨r, 16, none⟩ = some (.pointer (some ⟨ro, 0, none⟩)) := (cell_of h.block.1 16).trans h.1.o
theorem RT.atL (h : RT UG OG LG r A ro rl B G w n) : w.cell? ⟨r, 17, none⟩ = some (.pointer (some ⟨rl, 0, none⟩)) := (cell_of h.block.1 17).trans h.1.l
theorem pans_L (o : Od) (a : Ak) : (o.ans a).L = [] := by
  unfold Od.ans
  repeat' split
  all_goals rfl
/-- what the question's chains are, in the world in which the node is asked -/
theorem chains_on {H : Nat → Prop} {W : World} {a : Ak} (hA : ∀ W, Kept (fun k => ¬ G k) w W → CL W a.ao a.L) (hk : ∀ W2, Kept (fun k => ¬ H k) W W2 → Kept (fun k => ¬ G k) w W2) : ∀ W2, Kept (fun k => ¬ H k) W W2 → CL W2 a.ao a.L := fun W2 h => hA W2 (hk W2 h)
theorem rm_ask (HT : Three UG OG LG) (b : Nat) (G : Nat → Prop) (w : World) (n : Nd) (a : Ak) (h : RM UG OG LG b G w n) (ha : AkOk a) (hL : fewL a.L) (hs : a.data.size ≤ 1000000) (hu : n.l.used.length ≤ 100000) (hA : ∀ W, Kept (fun k => ¬ G k) w W → CL W a.ao a.L) :
    Calls Try.prog 8 #[ptrN b, askV a] w fun e w' => Tells (RM UG OG LG b) G w (n.done a) (n.ans a) e w' := by
  obtain ⟨A, ro, rl, B, h⟩ := h.rt
  have hT := rt_thing HT b A ro rl B
  have CO := fun (H : Nat → Prop) (W : World) (hH : RT UG OG LG b A ro rl B H W n) => rp_order hH.atO
  have CL0 := fun (H : Nat → Prop) (W : World) (hH : RT UG OG LG b A ro rl B H W n) => rp_layout hH.atL
  have kin : ∀ {H : Nat → Prop} {W : World}, (∀ W2, Kept (fun k => ¬ H k) W W2 → Kept (fun k => ¬ G k) w W2) → AkIn W a := fun {H W} hk => ⟨ha, hA W (hk W (Kept.refl _ W))⟩
  by_cases h1 : 1 ≤ a.kind ∧ a.kind ≤ 5
  · by_cases h2 : 0 ≤ a.unit ∧ a.unit ≤ 15
    · obtain ⟨i, hi⟩ : ∃ i : Nat, a.unit = i := ⟨a.unit.toNat, by omega⟩
      have hit : a.unit.toNat = i := by omega
      have hi16 : i < 16 := by omega
      rw [show n.ans a = (n.u i).ans a from by unfold Nd.ans; rw [if_pos h1, if_pos h2, hit], show n.done a = n.putU i ((n.u i).done a) from by unfold Nd.done; rw [if_pos h1, if_pos h2, hit]]
      refine (rp_do_unit hT G w n (n.putU i ((n.u i).done a)) h (some ⟨b, 0, none⟩) (some ⟨(B i).1, 0, none⟩) (some ⟨ro, 0, none⟩) (some ⟨rl, 0, none⟩) a ((n.u i).ans a) (fun _ _ => True) h1 (fun H W hH => by rw [hi]; exact rp_unit_yes hi16 (hH.atU hi16)) CO CL0 (fun H W hH hk => ?_)).mono (fun e w' ht => ht.tells.to (fun H W hH => RT.rm hH))
      refine (bundg_tells (i := i + 3) (V := UG (B i).1 (B i).2) (v' := (n.u i).done a) (N := RT UG OG LG b A ro rl B) (s' := n.putU i ((n.u i).done a)) (x := (n.u i).ans a) (fun i _ => nodeP_part HT b A ro rl B n i) hH.2 (by omega) (fun G' W h => rt_putU hH.1 h) (fun F hF hFG => ?_)).mono (fun e w' ht => TellsQ.of ht)
      refine (HT.u.ask (B i).1 (B i).2 F W (n.u i) a hF (kin hk) hs).mono ?_
      rintro e w' ⟨he, hl⟩
      exact tells_plain hl (ans_L _ _) (by rw [he, ansV_U])
    · rw [show n.ans a = anP 1 0 noS 0 from by unfold Nd.ans; rw [if_pos h1, if_neg h2], show n.done a = n from by unfold Nd.done; rw [if_pos h1, if_neg h2]]
      refine (rp_do_unit hT G w n n h (some ⟨b, 0, none⟩) none (some ⟨ro, 0, none⟩) (some ⟨rl, 0, none⟩) a (anP 1 0 noS 0) (fun _ _ => True) h1 (fun H W hH => rp_unit_no b a.unit (by omega) W) CO CL0 (fun H W hH hk => ?_)).mono (fun e w' ht => ht.tells.to (fun H W hH => RT.rm hH))
      refine (HT.u.nil_ask a W (kin hk) hs).mono ?_
      rintro e w' ⟨he, hb⟩
      exact TellsQ.of (tells_plain (Leaves.same hT hH hb) rfl (by rw [he]; rfl))
  by_cases h2 : 6 ≤ a.kind ∧ a.kind ≤ 8
  · rw [show n.ans a = n.o.ans a from by unfold Nd.ans; rw [if_neg h1, if_pos h2], show n.done a = n.putO (n.o.done a) from by unfold Nd.done; rw [if_neg h1, if_pos h2]]
    obtain ⟨x0, CU⟩ : ∃ x0 : Option Addr, ∀ H W, RT UG OG LG b A ro rl B H W n → Calls Try.prog 9 #[.pointer (some ⟨b, 0, none⟩), .int .i64 a.unit] W fun e w' => e = .returned (.pointer x0) ∧ W = w' := by
      by_cases hi : 0 ≤ a.unit ∧ a.unit ≤ 15
      · obtain ⟨i, hi2⟩ : ∃ i : Nat, a.unit = i := ⟨a.unit.toNat, by omega⟩
        exact ⟨some ⟨(B i).1, 0, none⟩, fun H W hH => by rw [hi2]; exact rp_unit_yes (by omega) (hH.atU (by omega))⟩
      · exact ⟨none, fun H W hH => rp_unit_no b a.unit (by omega) W⟩
    refine (rp_do_order hT G w n (n.putO (n.o.done a)) h (some ⟨b, 0, none⟩) x0 (some ⟨ro, 0, none⟩) (some ⟨rl, 0, none⟩) a (n.o.ans a) (fun _ _ => True) h2 CU CO CL0 (fun H W hH hk => ?_)).mono (fun e w' ht => ht.tells.to (fun H W hH => RT.rm hH))
    refine (bundg_tells (i := 1) (V := OG ro) (v' := n.o.done a) (N := RT UG OG LG b A ro rl B) (s' := n.putO (n.o.done a)) (x := n.o.ans a) (fun i _ => nodeP_part HT b A ro rl B n i) hH.2 (by omega) (fun G' W h => rt_putO hH.1 h) (fun F hF hFG => ?_)).mono (fun e w' ht => TellsQ.of ht)
    refine (HT.o.ask ro F W n.o a hF (kin hk)).mono ?_
    rintro e w' ⟨he, hl⟩
    exact tells_plain hl (pans_L _ _) (by rw [he, ansV_O])
  obtain ⟨x0, CU⟩ : ∃ x0 : Option Addr, ∀ H W, RT UG OG LG b A ro rl B H W n → Calls Try.prog 9 #[.pointer (some ⟨b, 0, none⟩), .int .i64 a.unit] W fun e w' => e = .returned (.pointer x0) ∧ W = w' := by
    by_cases hi : 0 ≤ a.unit ∧ a.unit ≤ 15
    · obtain ⟨i, hi2⟩ : ∃ i : Nat, a.unit = i := ⟨a.unit.toNat, by omega⟩
      exact ⟨some ⟨(B i).1, 0, none⟩, fun H W hH => by rw [hi2]; exact rp_unit_yes (by omega) (hH.atU (by omega))⟩
    · exact ⟨none, fun H W hH => rp_unit_no b a.unit (by omega) W⟩
  by_cases h3 : 9 ≤ a.kind ∧ a.kind ≤ 11
  · rw [show n.ans a = n.l.ans a from by unfold Nd.ans; rw [if_neg h1, if_neg h2, if_pos h3], show n.done a = n.putL (n.l.done a) from by unfold Nd.done; rw [if_neg h1, if_neg h2, if_pos h3]]
    refine (rp_do_layout hT G w n (n.putL (n.l.done a)) h (some ⟨b, 0, none⟩) x0 (some ⟨ro, 0, none⟩) (some ⟨rl, 0, none⟩) a (n.l.ans a) (fun _ _ => True) h3 CU CO CL0 (fun H W hH hk => ?_)).mono (fun e w' ht => ht.tells.to (fun H W hH => RT.rm hH))
    refine (bundg_tells (i := 0) (V := LG rl) (v' := n.l.done a) (N := RT UG OG LG b A ro rl B) (s' := n.putL (n.l.done a)) (x := n.l.ans a) (fun i _ => nodeP_part HT b A ro rl B n i) hH.2 (by omega) (fun G' W h => rt_putL hH.1 h) (fun F hF hFG => ?_)).mono (fun e w' ht => TellsQ.of ht)
    exact HT.l.ask rl F W n.l a hF ha hL hu (fun W2 hk2 => hA W2 (hk W2 (hk2.mono (fun k hn hf => hn (hFG k hf)))))
  · rw [show n.ans a = anP 1 0 noS 0 from by unfold Nd.ans; rw [if_neg h1, if_neg h2, if_neg h3], show n.done a = n from by unfold Nd.done; rw [if_neg h1, if_neg h2, if_neg h3]]
    refine (rp_do_none hT G w n n h (some ⟨b, 0, none⟩) x0 (some ⟨ro, 0, none⟩) (some ⟨rl, 0, none⟩) a (anP 1 0 noS 0) (fun _ _ => True) (by omega) CU CO CL0).mono ?_
    rintro e w' ⟨he, hl⟩
    exact tells_plain (hl.to (fun H hH => RT.rm hH)) rfl he
/-- no thing at all -/
def noneT (G : Nat → Prop) (w : World) (_ : Unit) : Prop := ∀ k, ¬ G k
theorem noneT_thing : Thing noneT where
  lt := fun h k hk => absurd hk (h k)
  keep := fun h _ _ => h
theorem noneT_below {α : Type} {T : (Nat → Prop) → World → α → Prop} {x : α} {w w' : World} (h : Leaves T (fun _ => False) w w' x) : Below w.heap.size w w' := by
  obtain ⟨_, _, hk, _⟩ := h
  exact hk.toBelow (Nat.le_refl _) (fun k _ h => h)
theorem noneT_leaves {w w' : World} (hb : Below w.heap.size w w') : Leaves noneT (fun _ => False) w w' () := ⟨fun _ => False, fun _ h => h, Kept.ofBelow hb _, fun k hk => hk.elim⟩
theorem noneT_all {H : Nat → Prop} {w w' : World} (hH : noneT H w ()) (hb : Below w.heap.size w w') : Leaves noneT H w w' () := ⟨H, hH, Kept.ofBelow hb _, fun k hk => .inl hk⟩
theorem rm_nil_ask (HT : Three UG OG LG) (HN : ∀ (w : World) (a : Ak), AkIn w a → Calls Try.prog 83 #[.pointer none, askV a] w fun e w' => e = .returned (anV 1 0 noS 0) ∧ Below w.heap.size w w') (a : Ak) (w : World) (ha : AkIn w a) :
    Calls Try.prog 8 #[.pointer none, askV a] w fun e w' => e = .returned (ansV (anP 1 0 noS 0) none 0) ∧ Below w.heap.size w w' := by
  have h0 : noneT (fun _ => False) w () := fun _ h => h
  have CU := fun (H : Nat → Prop) (W : World) (_ : noneT H W ()) => rp_unit_nil a.unit W
  have CO := fun (H : Nat → Prop) (W : World) (_ : noneT H W ()) => rp_order_nil W
  have CL0 := fun (H : Nat → Prop) (W : World) (_ : noneT H W ()) => rp_layout_nil W
  have fin : ∀ e w', TellsQ noneT (fun _ => False) w () (anP 1 0 noS 0) (fun ao cap => ao = none ∧ cap = 0) e w' → e = .returned (ansV (anP 1 0 noS 0) none 0) ∧ Below w.heap.size w w' := by
    rintro e w' ⟨ao, cap, C, ⟨rfl, rfl⟩, he, _, hl⟩
    exact ⟨he, noneT_below hl⟩
  have kin : ∀ {H : Nat → Prop} {W : World}, noneT H W () → (∀ W2, Kept (fun k => ¬ H k) W W2 → Kept (fun k => ¬ False) w W2) → AkIn W a := fun {H W} _ hk => by
    have h1 := hk W (Kept.refl _ W)
    exact ha.below (h1.toBelow (Nat.le_refl _) (fun k _ h => h))
  by_cases h1 : 1 ≤ a.kind ∧ a.kind ≤ 5
  · refine (rp_do_unit noneT_thing (fun _ => False) w () () h0 none none none none a (anP 1 0 noS 0) _ h1 CU CO CL0 (fun H W hH hk => ?_)).mono fin
    refine (HN W a (kin hH hk)).mono ?_
    rintro e w' ⟨he, hb⟩
    rw [he]
    exact TellsQ.none (x := anP 1 0 noS 0) (noneT_all hH hb) rfl
  by_cases h2 : 6 ≤ a.kind ∧ a.kind ≤ 8
  · refine (rp_do_order noneT_thing (fun _ => False) w () () h0 none none none none a (anP 1 0 noS 0) _ h2 CU CO CL0 (fun H W hH hk => ?_)).mono fin
    refine (on_nil_ask W a).mono ?_
    rintro e w' ⟨he, hb⟩
    rw [he]
    exact TellsQ.none (x := anP 1 0 noS 0) (noneT_all hH hb) rfl
  by_cases h3 : 9 ≤ a.kind ∧ a.kind ≤ 11
  · refine (rp_do_layout noneT_thing (fun _ => False) w () () h0 none none none none a (anP 1 0 noS 0) _ h3 CU CO CL0 (fun H W hH hk => ?_)).mono fin
    refine (HT.l.nil_ask W a (kin hH hk)).mono ?_
    rintro e w' ⟨he, hb⟩
    rw [he]
    exact TellsQ.none (x := anP 1 0 noS 0) (noneT_all hH hb) rfl
  · refine (rp_do_none noneT_thing (fun _ => False) w () () h0 none none none none a (anP 1 0 noS 0) (fun _ _ => True) (by omega) CU CO CL0).mono ?_
    rintro e w' ⟨he, hl⟩
    exact ⟨he, noneT_below hl⟩
theorem r_same {f : FuncId} {a : Array Value} {w : World} {v : Value} (h : Calls Try.prog f a w fun e w' => e = .returned v ∧ w = w') : Calls Try.prog f a w fun e w' => e = .returned v ∧ Below w.heap.size w w' := h.mono fun e w' ⟨h1, h2⟩ => ⟨h1, h2 ▸ Below.refl _ _⟩
theorem rpcSays_of (HT : Three UG OG LG) (HN : ∀ (w : World) (a : Ak), AkIn w a → Calls Try.prog 83 #[.pointer none, askV a] w fun e w' => e = .returned (anV 1 0 noS 0) ∧ Below w.heap.size w w') : RpcSays UG OG LG (RM UG OG LG) where
  units := HT.u
  order_ := HT.o
  layout_ := HT.l
  thing := rm_thing HT
  ok := by
    rintro b G w n ⟨A, ro, rl, B, h1, h2⟩
    refine ⟨fun i hi => ?_, ?_, ?_⟩
    · obtain ⟨F, hF, _⟩ := h2.look (i := i + 3) (by omega)
      exact HT.u.ok hF
    · obtain ⟨F, hF, _⟩ := h2.look (i := 1) (by omega)
      exact HT.o.ok hF
    · obtain ⟨F, hF, _⟩ := h2.look (i := 0) (by omega)
      exact HT.l.good hF
  new_bad := fun ep ao cap L room w h hl hg _ => rp_new_bad HT ep ao cap L room w h hl hg
  new_room := fun ep ao cap L room w h hl hg hr hi => rp_new_room HT ep ao cap L room w h hl hg hr hi
  new_yes := fun ep ao cap L room w h hl hg hr => rp_new_yes HT ep ao cap L room w h hl hg hr (i64w_small (by have := (goodB_iff.1 hg).1; omega))
  ask := fun b G w n a h ha hL hs hu hA => rm_ask HT b G w n a h ha hL hs hu hA
  unit := by
    intro b G w n i h hi
    obtain ⟨A, ro, rl, B, h⟩ := h.rt
    refine (rp_unit_yes hi (h.atU hi)).mono ?_
    rintro e w' ⟨he, rfl⟩
    obtain ⟨F, hF, hFG, hbu⟩ := h.2.use (fun i _ => nodeP_part HT b A ro rl B n i) (i := i + 3) (by omega)
    exact ⟨(B i).1, (B i).2, he, Below.refl _ _, F, hF, hFG, fun W u' hl => hbu (UG (B i).1 (B i).2) (RM UG OG LG b) W _ (n.putU i u') (fun G' W h2 => RT.rm (rt_putU h.1 h2)) hl⟩
  unit_no := fun b G w n i h hi _ => r_same (rp_unit_no b i hi w)
  order := by
    intro b G w n h
    obtain ⟨A, ro, rl, B, h⟩ := h.rt
    refine (rp_order h.atO).mono ?_
    rintro e w' ⟨he, rfl⟩
    obtain ⟨F, hF, hFG, hbu⟩ := h.2.use (fun i _ => nodeP_part HT b A ro rl B n i) (i := 1) (by omega)
    exact ⟨ro, he, Below.refl _ _, F, hF, hFG, fun W o' hl => hbu (OG ro) (RM UG OG LG b) W _ (n.putO o') (fun G' W h2 => RT.rm (rt_putO h.1 h2)) hl⟩
  layout := by
    intro b G w n h
    obtain ⟨A, ro, rl, B, h⟩ := h.rt
    refine (rp_layout h.atL).mono ?_
    rintro e w' ⟨he, rfl⟩
    obtain ⟨F, hF, hFG, hbu⟩ := h.2.use (fun i _ => nodeP_part HT b A ro rl B n i) (i := 0) (by omega)
    exact ⟨rl, he, Below.refl _ _, F, hF, hFG, fun W l' hl => hbu (LG rl) (RM UG OG LG b) W _ (n.putL l') (fun G' W h2 => RT.rm (rt_putL h.1 h2)) hl⟩
  nil_ask := fun a w ha => rm_nil_ask HT HN a w ha
  nil_unit := fun i w _ => r_same (rp_unit_nil i w)
  nil_order := fun w => r_same (rp_order_nil w)
  nil_layout := fun w => r_same (rp_layout_nil w)
end
end Go.Proofs.Ytphigibhgldnpaa
