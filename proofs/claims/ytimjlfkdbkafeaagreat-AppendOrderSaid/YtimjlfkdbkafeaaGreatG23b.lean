/- The statements' own questions to all nodes; units that are told; that rpc is awake. Conditions: the program's functions return what RpcSays says. What the laws of a hand ask of the program's functions: each one's contract, as a statement (proved where the program is spoken of). No conditions but those that the statements name. The program's nodes in memory: the layout, the sequencer, the block of pointers, the units, each in blocks of its own. Conditions: units, sequencer and layout are as the statements of their own stages say. What the program's layout tells of the units that were used, and what its New makes. Conditions: it and the projection lie where the call was told. -/
import Derived.Test.YtimjlfkdbkafeaaGreatG22a
import Derived.Test.YtimjlfkdbkafeaaGreatG10b
import Derived.Test.YtimjlfkdbkafeaaGreatG09b
import Derived.Test.YtimjlfkdbkafeaaGreatG17a
import Derived.Test.YtimjlfkdbkafeaaGreatG15a
set_option linter.unusedVariables false
namespace Go.Proofs.YtimjlfkdbkafeaaGreat
set_option linter.unusedVariables false
open Go.RowKit
set_option maxRecDepth 20000
theorem i64w_near3 {x : Int} (h : -1000000000000 ≤ x ∧ x ≤ 1000000000000) : i64w x := WalkArith.wf_i64 (by omega)
/-- a question without a projection -/
def akN (kind unit epoch page : Int) (s : ByteArray) : Ak := ⟨kind, unit, epoch, page, 0, 0, s, 0, [], none, 0⟩
theorem akN_ok {k u e p : Int} {s : ByteArray} (hk : i64w k) (hu : i64w u) (he : i64w e) (hp : i64w p) (hs : s.size ≤ 1000000) : AkOk (akN k u e p s) :=
  ⟨hk, hu, he, hp, WalkArith.wf_i64 (n := 0) (by decide), WalkArith.wf_i64 (n := 0) (by decide), Nat.le_trans hs (by unfold maxLen; omega), WalkArith.wf_i64 (n := 0) (by decide), Nat.zero_le _, (fun c hc => by cases hc), fun _ => rfl, Nat.le_refl _⟩
section
variable {UG : Nat → Nat → (Nat → Prop) → World → Us → Prop} {OG : Nat → (Nat → Prop) → World → Od → Prop} {LG : Nat → (Nat → Prop) → World → Ly → Prop} {NG : Nat → (Nat → Prop) → World → Nd → Prop} {X : Nat → Prop} {w : World} {b : Nat} {n : Nd}
theorem n_new (HS : RpcSays UG OG LG NG) {ep room : Int} {ao : Option Addr} {cap : Nat} {L : List (List Int)} (h : CL w ao L) (hl : fewL L) (hg : goodB ep L = true) (hr : 1 ≤ room ∧ room ≤ 4096) :
    Calls Tryz.prog 29 #[.agg #[.int .i64 ep, .slice ao L.length cap], .int .i64 room] w fun e w' => ∃ b, e = .returned (.tuple #[ptrN b, .int .i64 0]) ∧ Solo (NG b) (fun k => k < w.heap.size) w' (newN ep L room) ∧ Below w.heap.size w w' := by
  refine (HS.new_yes ep ao cap L room w h hl hg hr).mono ?_
  rintro e w' ⟨b, G, he, h1, h2, h3⟩
  exact ⟨b, he, ⟨fun k hk => Nat.lt_of_lt_of_le hk h3.size, G, h1, fun k hk hg => by have := h2 k hg; omega⟩, h3⟩
theorem n_ask (HS : RpcSays UG OG LG NG) (h : Solo (NG b) X w n) {a : Ak} (ho : AkOk a) (hL : fewL a.L) (hs : a.data.size ≤ 1000000) (hu : n.l.used.length ≤ 100000) (hA : ∀ W, Kept X w W → CL W a.ao a.L) :
    Calls Tryz.prog 41 #[ptrN b, askV a] w fun e w' => ∃ (ao : Option Addr) (cap : Nat) (F : Nat → Prop), e = .returned (ansV (n.ans a) ao cap) ∧ CG F w' (.slice ao (n.ans a).L.length cap) (n.ans a).L ∧ Solo (NG b) (fun k => X k ∨ F k) w' (n.done a) ∧ Kept X w w' :=
  solo_tells (HS.thing b) h (fun F hF hX => HS.ask b F w n a hF ho hL hs hu (fun W hk => hA W (hk.mono hX)))
theorem n_askN (HS : RpcSays UG OG LG NG) (h : Solo (NG b) X w n) {k u e p : Int} {s : ByteArray} (hk : i64w k) (hu : i64w u) (he : i64w e) (hp : i64w p) (hs : s.size ≤ 1000000) (hl : n.l.used.length ≤ 100000) :
    Calls Tryz.prog 41 #[.pointer (some ⟨b, 0, none⟩), .agg #[.int .i64 k, .int .i64 u, .int .i64 e, .int .i64 p, .int .i64 0, .int .i64 0, .string s, .int .i64 0, .slice none 0 0]] w fun e2 w' => ∃ (xc xn : Int) (xd : ByteArray) (xp xm xz xe : Int) (vo : Option Addr) (vn vc : Nat),
      e2 = .returned (.agg #[.int .i64 xc, .int .i64 xn, .string xd, .int .i64 xp, .slice vo vn vc, .int .i64 xm, .int .i64 xz, .int .i64 xe]) ∧ (xc = (n.ans (akN k u e p s)).code ∧ xn = (n.ans (akN k u e p s)).n ∧ xd = (n.ans (akN k u e p s)).data ∧ xp = (n.ans (akN k u e p s)).pe) ∧ Solo (NG b) X w' (n.done (akN k u e p s)) ∧ Kept X w w' := by
  refine (n_ask HS h (a := akN k u e p s) (akN_ok hk hu he hp hs) few_nil hs hl (fun W _ => CL.nil _ _)).mono ?_
  rintro e2 w' ⟨ao, cap, F, rfl, _, h3, h4⟩
  exact ⟨_, _, _, _, _, _, _, _, _, _, rfl, ⟨rfl, rfl, rfl, rfl⟩, h3.less (fun k hk => .inl hk), h4⟩
/-- a unit that is told -/
theorem n_unit (HS : RpcSays UG OG LG NG) (h : Solo (NG b) X w n) {k : Int} {i : Nat} (hi : i < 16) (hk : k = i) :
    Calls Tryz.prog 18 #[.pointer (some ⟨b, 0, none⟩), .int .i64 k] w fun e w' => ∃ (bu pb : Nat), e = .returned (.pointer (some ⟨bu, 0, none⟩)) ∧ Solo (NG b) X w' n ∧ Solo (UG bu pb) X w' (n.u i) ∧ Below w.heap.size w w' := by
  subst hk
  obtain ⟨h1, F, hF, h3⟩ := h
  refine (HS.unit b F w n i hF hi).mono ?_
  rintro e w' ⟨bu, pb, he, hb, F2, hu, hs, _⟩
  have hx : ∀ k, X k → k < w'.heap.size := fun k hk => Nat.lt_of_lt_of_le (h1 k hk) hb.size
  exact ⟨bu, pb, he, ⟨hx, F, (HS.thing b).keep hF (Kept.ofBelow hb (fun _ => True)) (fun _ _ => trivial), h3⟩, ⟨hx, F2, hu, fun k hk hf => h3 k hk (hs k hf)⟩, hb⟩
theorem n_unit_no (HS : RpcSays UG OG LG NG) (h : Solo (NG b) X w n) {i : Int} (hi : i < 0 ∨ 15 < i) (hw : i64w i) :
    Calls Tryz.prog 18 #[.pointer (some ⟨b, 0, none⟩), .int .i64 i] w fun e w' => e = .returned (.pointer none) ∧ Solo (NG b) X w' n ∧ Below w.heap.size w w' := by
  obtain ⟨_, F, hF, _⟩ := id h
  exact (HS.unit_no b F w n i hF hi hw).mono fun e w' ⟨he, hb⟩ => ⟨he, h.below (HS.thing b) hb, hb⟩
theorem n_order (HS : RpcSays UG OG LG NG) (h : Solo (NG b) X w n) :
    Calls Tryz.prog 62 #[.pointer (some ⟨b, 0, none⟩)] w fun e w' => ∃ bo : Nat, e = .returned (.pointer (some ⟨bo, 0, none⟩)) ∧ Solo (NG b) X w' n ∧ Solo (OG bo) X w' n.o ∧ Below w.heap.size w w' := by
  obtain ⟨h1, F, hF, h3⟩ := h
  refine (HS.order b F w n hF).mono ?_
  rintro e w' ⟨bo, he, hb, F2, hu, hs, _⟩
  have hx : ∀ k, X k → k < w'.heap.size := fun k hk => Nat.lt_of_lt_of_le (h1 k hk) hb.size
  exact ⟨bo, he, ⟨hx, F, (HS.thing b).keep hF (Kept.ofBelow hb (fun _ => True)) (fun _ _ => trivial), h3⟩, ⟨hx, F2, hu, fun k hk hf => h3 k hk (hs k hf)⟩, hb⟩
theorem n_layout (HS : RpcSays UG OG LG NG) (h : Solo (NG b) X w n) :
    Calls Tryz.prog 63 #[.pointer (some ⟨b, 0, none⟩)] w fun e w' => ∃ bl : Nat, e = .returned (.pointer (some ⟨bl, 0, none⟩)) ∧ Solo (NG b) X w' n ∧ Solo (LG bl) X w' n.l ∧ Below w.heap.size w w' := by
  obtain ⟨h1, F, hF, h3⟩ := h
  refine (HS.layout b F w n hF).mono ?_
  rintro e w' ⟨bl, he, hb, F2, hu, hs, _⟩
  have hx : ∀ k, X k → k < w'.heap.size := fun k hk => Nat.lt_of_lt_of_le (h1 k hk) hb.size
  exact ⟨bl, he, ⟨hx, F, (HS.thing b).keep hF (Kept.ofBelow hb (fun _ => True)) (fun _ _ => trivial), h3⟩, ⟨hx, F2, hu, fun k hk hf => h3 k hk (hs k hf)⟩, hb⟩
/-- what looks at one of them leaves the others -/
theorem t_look {α : Type} {T : (Nat → Prop) → World → α → Prop} {s : α} {v : Value} {fn : FuncId} {args : Array Value} (h : Solo T X w s) (hc : ∀ G : Nat → Prop, T G w s → Calls Tryz.prog fn args w fun e w' => e = .returned v ∧ Below w.heap.size w w') : Calls Tryz.prog fn args w fun e w' => e = .returned v ∧ Below w.heap.size w w' := by
  obtain ⟨F, hF, _⟩ := h.2
  exact hc F hF
end
/-- the laws' example -/
def exN0 : Nd := newN 2 [[0, 1]] 9
def exN1 : Nd := exN0.done (akN 6 0 2 0 ⟨#[]⟩)
def exN2 : Nd := exN1.done (akN 1 1 2 0 ⟨#[97]⟩)
def exN3 : Nd := exN2.done (akN 9 0 0 0 ⟨#[]⟩)
theorem exN_facts : goodB 2 [[0, 1]] = true ∧ (exN0.ans (akN 6 0 2 0 ⟨#[]⟩)).code = 0 ∧ (exN0.ans (akN 6 0 2 0 ⟨#[]⟩)).n = 0 ∧ (exN1.ans (akN 1 1 2 0 ⟨#[97]⟩)).code = 0 ∧ (exN2.ans (akN 9 0 0 0 ⟨#[]⟩)).pe = 2 ∧ (exN3.u 1).p.l.length = 1 := by decide +kernel
theorem exN_few : exN0.l.used.length ≤ 100000 ∧ exN1.l.used.length ≤ 100000 ∧ exN2.l.used.length ≤ 100000 := by decide +kernel
end Go.Proofs.YtimjlfkdbkafeaaGreat
namespace Go.Proofs.YtimjlfkdbkafeaaGreat
set_option linter.unusedVariables false
open Go.RowKit
set_option maxRecDepth 20000
def ptrH (b : Nat) : Value := .pointer (some ⟨b, 0, none⟩)
/-- an answer, and whether there is one -/
def heardT (x : An) (c : Bool) (ao : Option Addr) (cap : Nat) : Value := .tuple #[ansV x ao cap, .bool c]
/-- a hand, less where the chains of what it holds lie -/
def Hd.plain (h : Hd) : Hd := ⟨h.n, h.held.map Ak.plain⟩
/-- HG b nb G w h: in world w block b is the program's hand h (what it holds less where its chains lie), block nb its nodes; all that they own lies in G. The program's functions return what is said here -/
structure HandSays (UG : Nat → Nat → (Nat → Prop) → World → Us → Prop) (OG : Nat → (Nat → Prop) → World → Od → Prop) (LG : Nat → (Nat → Prop) → World → Ly → Prop) (NG : Nat → (Nat → Prop) → World → Nd → Prop) (HG : Nat → Nat → (Nat → Prop) → World → Hd → Prop) : Prop where
  rpc : RpcSays UG OG LG NG
  thing : ∀ b nb, Thing (HG b nb)
  nodes_in : ∀ {b nb : Nat} {G : Nat → Prop} {w : World} {h : Hd}, HG b nb G w h → ∃ F : Nat → Prop, NG nb F w h.n ∧ ∀ k, F k → G k
  few : ∀ {b nb : Nat} {G : Nat → Prop} {w : World} {h : Hd}, HG b nb G w h → h.held.length ≤ 64
  new : ∀ (nb : Nat) (F : Nat → Prop) (w : World) (n : Nd), NG nb F w n → Calls Tryz.prog 31 #[ptrN nb] w fun e w' => ∃ b : Nat, e = .returned (ptrH b) ∧ Leaves (HG b nb) F w w' ⟨n, []⟩ ∧ Below w.heap.size w w'
  new_no : ∀ (w : World), Calls Tryz.prog 31 #[.pointer none] w fun e w' => ∃ p : Option Addr, e = .returned (.pointer p) ∧ Below w.heap.size w w' ∧ ∀ w2, Below w'.heap.size w' w2 →
    (∀ (a : Ak) (fate : Int), AkIn w2 a → i64w fate → Calls Tryz.prog 12 #[.pointer p, askV a, .int .i64 fate] w2 fun e w3 => e = .returned (heardT zeroX false none 0) ∧ Below w2.heap.size w2 w3) ∧
    (∀ k : Int, i64w k → Calls Tryz.prog 13 #[.pointer p, .int .i64 k] w2 fun e w3 => e = .returned (.bool false) ∧ Below w2.heap.size w2 w3)
  ask : ∀ (b nb : Nat) (G : Nat → Prop) (w : World) (h : Hd) (a : Ak) (fate : Int), HG b nb G w h → AkOk a → fewL a.L → a.data.size ≤ 1000000 → h.n.l.used.length ≤ 100000 → i64w fate → (∀ W, Kept (fun k => ¬ G k) w W → CL W a.ao a.L) →
    Calls Tryz.prog 12 #[ptrH b, askV a, .int .i64 fate] w fun e w' => ToldBy (heardT (h.heard a fate) (decide (fate = 0))) (HG b nb) G w (h.asked a.plain fate) (h.heard a fate) e w'
  does : ∀ (b nb : Nat) (G : Nat → Prop) (w : World) (h : Hd) (k : Int), HG b nb G w h → h.n.l.used.length ≤ 100000 → i64w k → Calls Tryz.prog 13 #[ptrH b, .int .i64 k] w fun e w' => e = .returned (.bool (h.has k)) ∧ Leaves (HG b nb) G w w' (h.does k)
  nodes : ∀ (b nb : Nat) (G : Nat → Prop) (w : World) (h : Hd), HG b nb G w h → Calls Tryz.prog 17 #[ptrH b] w fun e w' => e = .returned (ptrN nb) ∧ Below w.heap.size w w'
  nil_ask : ∀ (a : Ak) (fate : Int) (w : World), AkIn w a → i64w fate → Calls Tryz.prog 12 #[.pointer none, askV a, .int .i64 fate] w fun e w' => e = .returned (heardT zeroX false none 0) ∧ Below w.heap.size w w'
  nil_do : ∀ (k : Int) (w : World), i64w k → Calls Tryz.prog 13 #[.pointer none, .int .i64 k] w fun e w' => e = .returned (.bool false) ∧ Below w.heap.size w w'
  nil_nodes : ∀ (w : World), Calls Tryz.prog 17 #[.pointer none] w fun e w' => e = .returned (.pointer none) ∧ Below w.heap.size w w'
theorem plain_ask (h : Hd) (a : Ak) (fate : Int) : (h.asked a fate).plain = h.plain.asked a.plain fate := by
  unfold Hd.asked
  split
  · rfl
  · rw [show h.plain.held.length = h.held.length from List.length_map ..]
    split
    · unfold Hd.plain
      rw [List.map_append]
      rfl
    · rfl
theorem plain_heard (h : Hd) (a : Ak) (fate : Int) : h.plain.heard a fate = h.heard a fate := rfl
theorem plain_has (h : Hd) (k : Int) : h.plain.has k = h.has k := by
  unfold Hd.has
  rw [show h.plain.held.length = h.held.length from List.length_map ..]
theorem plain_less (l : List Ak) (k : Nat) : (lessK l k).map Ak.plain = lessK (l.map Ak.plain) k := by
  unfold lessK
  rw [List.map_append, List.map_take, List.map_drop]
theorem plain_drops (h : Hd) (k : Int) : (h.drops k).plain = h.plain.drops k := by
  unfold Hd.drops
  rw [show h.plain.held.length = h.held.length from List.length_map ..]
  split
  · unfold Hd.plain
    rw [plain_less]
  · rfl
theorem plain_does (h : Hd) (k : Int) : (h.does k).plain = h.plain.does k := by
  unfold Hd.does
  have e : h.plain.held.length = h.held.length := List.length_map ..
  by_cases hk : 0 ≤ k ∧ k < h.held.length
  · rw [dif_pos hk, dif_pos (by rw [e]; exact hk)]
    unfold Hd.plain
    simp only [List.getElem_map]
    rw [plain_less, plain_done]
  · rw [dif_neg hk, dif_neg (by rw [e]; exact hk)]
theorem plain_u (h : Hd) : h.plain.n = h.n := rfl
/-- how many units were used -/
theorem asked_used (h : Hd) (a : Ak) (fate : Int) (hd : ∀ n : Nd, (n.done a).l.used.length ≤ n.l.used.length + 16) : (h.asked a fate).n.l.used.length ≤ h.n.l.used.length + 16 := by
  unfold Hd.asked
  split
  · exact hd h.n
  split
  · exact Nat.le_add_right _ _
  · exact Nat.le_add_right _ _
end Go.Proofs.YtimjlfkdbkafeaaGreat
namespace Go.Proofs.YtimjlfkdbkafeaaGreat
set_option linter.unusedVariables false
open Go.RowKit
set_option maxRecDepth 20000
/-- what units, sequencer and layout are -/
structure Three (UG : Nat → Nat → (Nat → Prop) → World → Us → Prop) (OG : Nat → (Nat → Prop) → World → Od → Prop) (LG : Nat → (Nat → Prop) → World → Ly → Prop) : Prop where
  u : UnitSays UG
  o : OrderSays OG
  l : LaySays LG
/-- the block of 18 pointers, of which the first m units' are there -/
structure TabP (A : Array Value) (m : Nat) (B : Nat → Nat × Nat) (ro rl : Nat) : Prop where
  size : A.size = 18
  at_ : ∀ i, i < m → A[i]? = some (ptrV (B i).1)
  o : A[16]? = some (ptrO ro)
  l : A[17]? = some (ptrL rl)
theorem TabP.put {A : Array Value} {m : Nat} {B : Nat → Nat × Nat} {ro rl : Nat} (h : TabP A m B ro rl) (hm : m < 16) (x : Nat × Nat) : TabP (A.setIfInBounds m (ptrV x.1)) (m + 1) (fun j => if j = m then x else B j) ro rl := by
  have hs := h.size
  refine ⟨by simp [hs], fun i hi => ?_, ?_, ?_⟩
  · by_cases e : i = m
    · subst e
      simp [hs, show i < 18 by omega]
    · rw [Array.getElem?_setIfInBounds_ne (fun h => e h.symm), if_neg e]
      exact h.at_ i (by omega)
  · rw [Array.getElem?_setIfInBounds_ne (by omega)]
    exact h.o
  · rw [Array.getElem?_setIfInBounds_ne (by omega)]
    exact h.l
/-- its parts, one after another -/
def nodeP (UG : Nat → Nat → (Nat → Prop) → World → Us → Prop) (OG : Nat → (Nat → Prop) → World → Od → Prop) (LG : Nat → (Nat → Prop) → World → Ly → Prop) (r : Nat) (A : Array Value) (ro rl : Nat) (B : Nat → Nat × Nat) (n : Nd) : Nat → (Nat → Prop) → World → Prop
  | 0 => fun F w => LG rl F w n.l
  | 1 => fun F w => OG ro F w n.o
  | 2 => fun F w => w.heap[r]? = some (.cells A 99 (0, 0)) ∧ ∀ k, F k ↔ k = r
  | i + 3 => fun F w => UG (B i).1 (B i).2 F w (n.u i)
theorem nodeP_part {UG : Nat → Nat → (Nat → Prop) → World → Us → Prop} {OG : Nat → (Nat → Prop) → World → Od → Prop} {LG : Nat → (Nat → Prop) → World → Ly → Prop} (HT : Three UG OG LG) (r : Nat) (A : Array Value) (ro rl : Nat) (B : Nat → Nat × Nat) (n : Nd) : ∀ i, Part (nodeP UG OG LG r A ro rl B n i)
  | 0 => (HT.l.thing rl).part n.l
  | 1 => (HT.o.thing ro).part n.o
  | 2 => ⟨fun h k hk => by rw [(h.2 k).1 hk]; exact lt_of_block h.1, fun h hk hS => ⟨hk.heap (hS r ((h.2 r).2 rfl)) h.1, h.2⟩⟩
  | i + 3 => (HT.u.thing (B i).1 (B i).2).part (n.u i)
/-- block r is the document's nodes -/
def RM (UG : Nat → Nat → (Nat → Prop) → World → Us → Prop) (OG : Nat → (Nat → Prop) → World → Od → Prop) (LG : Nat → (Nat → Prop) → World → Ly → Prop) (r : Nat) (G : Nat → Prop) (w : World) (n : Nd) : Prop := ∃ (A : Array Value) (ro rl : Nat) (B : Nat → Nat × Nat), TabP A 16 B ro rl ∧ BundG 19 (nodeP UG OG LG r A ro rl B n) G w
theorem rm_thing {UG : Nat → Nat → (Nat → Prop) → World → Us → Prop} {OG : Nat → (Nat → Prop) → World → Od → Prop} {LG : Nat → (Nat → Prop) → World → Ly → Prop} (HT : Three UG OG LG) (r : Nat) : Thing (RM UG OG LG r) where
  lt := by
    rintro G w n ⟨A, ro, rl, B, h1, h2⟩
    exact h2.lt (fun i _ => nodeP_part HT r A ro rl B n i)
  keep := by
    rintro G S w w' n ⟨A, ro, rl, B, h1, h2⟩ hk hS
    exact ⟨A, ro, rl, B, h1, h2.keep (fun i _ => nodeP_part HT r A ro rl B n i) hk hS⟩
section
variable {UG : Nat → Nat → (Nat → Prop) → World → Us → Prop} {OG : Nat → (Nat → Prop) → World → Od → Prop} {LG : Nat → (Nat → Prop) → World → Ly → Prop} {r : Nat} {A : Array Value} {ro rl : Nat} {B : Nat → Nat × Nat} {n : Nd} {G : Nat → Prop} {w : World}
theorem rm_putL (h1 : TabP A 16 B ro rl) {y : Ly} {G' : Nat → Prop} {W : World} (h : BundG 19 (swapP (nodeP UG OG LG r A ro rl B n) 0 (fun F W => LG rl F W y)) G' W) : RM UG OG LG r G' W (n.putL y) :=
  ⟨A, ro, rl, B, h1, h.same (fun i _ F W hF => by match i, hF with | 0, hF => exact hF | 1, hF => exact hF | 2, hF => exact hF | j + 3, hF => exact hF)⟩
theorem rm_putO (h1 : TabP A 16 B ro rl) {o : Od} {G' : Nat → Prop} {W : World} (h : BundG 19 (swapP (nodeP UG OG LG r A ro rl B n) 1 (fun F W => OG ro F W o)) G' W) : RM UG OG LG r G' W (n.putO o) :=
  ⟨A, ro, rl, B, h1, h.same (fun i _ F W hF => by match i, hF with | 0, hF => exact hF | 1, hF => exact hF | 2, hF => exact hF | j + 3, hF => exact hF)⟩
theorem rm_putU (h1 : TabP A 16 B ro rl) {k : Nat} {u : Us} {G' : Nat → Prop} {W : World} (h : BundG 19 (swapP (nodeP UG OG LG r A ro rl B n) (k + 3) (fun F W => UG (B k).1 (B k).2 F W u)) G' W) : RM UG OG LG r G' W (n.putU k u) := by
  refine ⟨A, ro, rl, B, h1, h.same (fun i _ F W hF => ?_)⟩
  match i, hF with
  | 0, hF => exact hF
  | 1, hF => exact hF
  | 2, hF => exact hF
  | j + 3, hF =>
    unfold swapP at hF
    by_cases e : j = k
    · subst e
      rw [if_pos rfl] at hF
      show UG _ _ F W ((n.putU j u).u j)
      rw [putU_at]
      exact hF
    · rw [if_neg (by omega)] at hF
      show UG _ _ F W ((n.putU k u).u j)
      rw [putU_off n u e]
      exact hF
/-- the block of pointers -/
theorem RM.tab (h : RM UG OG LG r G w n) : ∃ (A : Array Value) (ro rl : Nat) (B : Nat → Nat × Nat), TabP A 16 B ro rl ∧ w.heap[r]? = some (.cells A 99 (0, 0)) ∧ G r ∧ BundG 19 (nodeP UG OG LG r A ro rl B n) G w := by
  obtain ⟨A, ro, rl, B, h1, h2⟩ := h
  obtain ⟨F, h3, h4⟩ := h2.look (i := 2) (by omega)
  exact ⟨A, ro, rl, B, h1, h3.1, h4 r ((h3.2 r).2 rfl), h2⟩
end
end Go.Proofs.YtimjlfkdbkafeaaGreat
namespace Go.Proofs.YtimjlfkdbkafeaaGreat
set_option linter.unusedVariables false
open Go.RowKit Go.Maps
set_option maxRecDepth 20000
theorem ownsMap_size {w : World} {b n : Nat} {D : DataW Unit} {k : TypeId} {R : Value → Option (DataW Unit × List MemPlace)} (h : w.ownsMap Tryz.prog k R b n D) : Maps.size D ≤ n := by
  obtain ⟨es, clock, h1, h2, h3, rfl⟩ := h
  rw [size_eq, length_sorted]
  simpa using h3
theorem coll_start {D : DataW Unit} {S : List Int} (hs : ∀ u, (Lit.int .i64 u).wf = true → Maps.has D (klU u) = decide (u ∈ S)) : Coll S (Maps.has D) [] := by
  refine ⟨List.Pairwise.nil, fun u hu => ?_⟩
  rw [hs u hu]
  simp
theorem coll_step {D : DataW Unit} {S l : List Int} {left : Lit → Bool} (hs : ∀ u, (Lit.int .i64 u).wf = true → Maps.has D (klU u) = decide (u ∈ S)) (h : Coll S left l) {u : Int} {y : DataW Unit} (hu : (Lit.int .i64 u).wf = true) (hl : left (klU u) = true) (hat : ∀ z, D.atKey (klU u) z = y) :
    Coll S (fun z => left z && !z.sameKey (klU u)) (l ++ [u]) := by
  have hS : u ∈ S := by
    have h1 := has_true_of_atKey hat
    rw [hs u hu] at h1
    exact of_decide_eq_true h1
  have hn : u ∉ l := by
    intro hm
    have := ((h.2 u hu).1 hm).2
    rw [hl] at this
    cases this
  refine ⟨nodup_snoc h.1 hn, fun v hv => ?_⟩
  rw [List.mem_append, List.mem_singleton]
  by_cases e : v = u
  · subst e
    simp [hS, WideAt.sameKey_self (klU_key hu)]
  · show v ∈ l ∨ v = u ↔ v ∈ S ∧ (left (klU v) && !(klU v).sameKey (klU u)) = false
    rw [h.2 v hv, sameKey_ne (fun e2 => e (klU_inj hv hu e2))]
    simp [e]
end Go.Proofs.YtimjlfkdbkafeaaGreat
