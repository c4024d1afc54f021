/- The statements' own questions to all nodes; units that are told; that rpc is awake. Conditions: the program's functions return what RpcSays says. What the laws of a hand ask of the program's functions: each one's contract, as a statement (proved where the program is spoken of). No conditions but those that the statements name. The program's nodes in memory: the layout, the sequencer, the block of pointers, the units, each in blocks of its own. Conditions: units, sequencer and layout are as the statements of their own stages say. What the program's layout tells of the units that were used, and what its New makes. Conditions: it and the projection lie where the call was told. -/
import Derived.Test.YtchhmfdalghgcaaGreatG22a
import Derived.Test.YtchhmfdalghgcaaGreatG10b
import Derived.Test.YtchhmfdalghgcaaGreatG09a
import Derived.Test.YtchhmfdalghgcaaGreatG17a
import Derived.Test.YtchhmfdalghgcaaGreatG15b
set_option linter.unusedVariables false
namespace Go.Proofs.YtchhmfdalghgcaaGreat
set_option linter.unusedVariables false
open Go.RowKit
set_option maxRecDepth 20000
/-- a question without a projection -/
def akN (kind unit epoch page : Int) (s : ByteArray) : Ak := ⟨kind, unit, epoch, page, 0, 0, s, 0, [], none, 0⟩
theorem akN_ok {k u e p : Int} {s : ByteArray} (hk : i64w k) (hu : i64w u) (he : i64w e) (hp : i64w p) (hs : s.size ≤ 1000000) : AkOk (akN k u e p s) :=
  ⟨hk, hu, he, hp, WalkArith.wf_i64 (n := 0) (by decide), WalkArith.wf_i64 (n := 0) (by decide), Nat.le_trans hs (by unfold maxLen; omega), WalkArith.wf_i64 (n := 0) (by decide), Nat.zero_le _, (fun c hc => by cases hc), fun _ => rfl, Nat.le_refl _⟩
section
variable {UG : Nat → Nat → (Nat → Prop) → World → Us → Prop} {OG : Nat → (Nat → Prop) → World → Od → Prop} {LG : Nat → (Nat → Prop) → World → Ly → Prop} {NG : Nat → (Nat → Prop) → World → Nd → Prop} {X : Nat → Prop} {w : World} {b : Nat} {n : Nd}
theorem n_new (HS : RpcSays UG OG LG NG) {ep room : Int} {ao : Option Addr} {cap : Nat} {L : List (List Int)} (h : CL w ao L) (hl : fewL L) (hg : goodB ep L = true) (hr : 1 ≤ room ∧ room ≤ 4096) :
    Calls Tryz.prog 25 #[.agg #[.int .i64 ep, .slice ao L.length cap], .int .i64 room] w fun e w' => ∃ b, e = .returned (.tuple #[ptrN b, .int .i64 0]) ∧ Solo (NG b) (fun k => k < w.heap.size) w' (newN ep L room) ∧ Below w.heap.size w w' := by
  refine (HS.new_yes ep ao cap L room w h hl hg hr).mono ?_
  rintro e w' ⟨b, G, he, h1, h2, h3⟩
  exact ⟨b, he, ⟨fun k hk => Nat.lt_of_lt_of_le hk h3.size, G, h1, fun k hk hg => by have := h2 k hg; omega⟩, h3⟩
end
end Go.Proofs.YtchhmfdalghgcaaGreat
namespace Go.Proofs.YtchhmfdalghgcaaGreat
set_option linter.unusedVariables false
open Go.RowKit
set_option maxRecDepth 20000
def ptrH (b : Nat) : Value := .pointer (some ⟨b, 0, none⟩)
/-- an answer, and whether there is one -/
def heardT (x : An) (c : Bool) (ao : Option Addr) (cap : Nat) : Value := .tuple #[ansV x ao cap, .bool c]
/-- a hand, less where the chains of what it holds lie -/
def Hd.plain (h : Hd) : Hd := ⟨h.n, h.held.map Ak.plain⟩
/-- HG b nb G w h: in world w block b is the program's hand h (what it holds less where its chains lie), block nb its nodes; all that they own lies in G. The program's functions return what is said here -/
structure HandSays (UG : Nat → Nat → (Nat → Prop) → World → Us → Prop) (OG : Nat → (Nat → Prop) → World → Od → Prop) (LG : Nat → (Nat → Prop) → World → Ly → Prop) (NG : Nat → (Nat → Prop) → World → Nd → Prop) (HG : Nat → Nat → (Nat → Prop) → World → Hd → Prop) : Prop where
  rpc : RpcSays UG OG LG NG
  thing : ∀ b nb, Thing (HG b nb)
  nodes_in : ∀ {b nb : Nat} {G : Nat → Prop} {w : World} {h : Hd}, HG b nb G w h → ∃ F : Nat → Prop, NG nb F w h.n ∧ ∀ k, F k → G k
  within : ∀ {b nb : Nat} {G : Nat → Prop} {w : World} {h : Hd}, HG b nb G w h → ∃ F : Nat → Prop, NG nb F w h.n ∧ (∀ k, F k → G k) ∧ ∀ W n', Leaves (NG nb) F w W n' → Leaves (HG b nb) G w W ⟨n', h.held⟩
  few : ∀ {b nb : Nat} {G : Nat → Prop} {w : World} {h : Hd}, HG b nb G w h → h.held.length ≤ 64
  new : ∀ (nb : Nat) (F : Nat → Prop) (w : World) (n : Nd), NG nb F w n → Calls Tryz.prog 27 #[ptrN nb] w fun e w' => ∃ b : Nat, e = .returned (ptrH b) ∧ Leaves (HG b nb) F w w' ⟨n, []⟩ ∧ Below w.heap.size w w'
  new_no : ∀ (w : World), Calls Tryz.prog 27 #[.pointer none] w fun e w' => ∃ p : Option Addr, e = .returned (.pointer p) ∧ Below w.heap.size w w' ∧ ∀ w2, Below w'.heap.size w' w2 →
    (∀ (a : Ak) (fate : Int), AkIn w2 a → i64w fate → Calls Tryz.prog 9 #[.pointer p, askV a, .int .i64 fate] w2 fun e w3 => e = .returned (heardT zeroX false none 0) ∧ Below w2.heap.size w2 w3) ∧
    (∀ k : Int, i64w k → Calls Tryz.prog 11 #[.pointer p, .int .i64 k] w2 fun e w3 => e = .returned (.bool false) ∧ Below w2.heap.size w2 w3)
  ask : ∀ (b nb : Nat) (G : Nat → Prop) (w : World) (h : Hd) (a : Ak) (fate : Int), HG b nb G w h → AkOk a → fewL a.L → a.data.size ≤ 1000000 → h.n.l.used.length ≤ 100000 → i64w fate → (∀ W, Kept (fun k => ¬ G k) w W → CL W a.ao a.L) →
    Calls Tryz.prog 9 #[ptrH b, askV a, .int .i64 fate] w fun e w' => ToldBy (heardT (h.heard a fate) (decide (fate = 0))) (HG b nb) G w (h.asked a.plain fate) (h.heard a fate) e w'
  does : ∀ (b nb : Nat) (G : Nat → Prop) (w : World) (h : Hd) (k : Int), HG b nb G w h → h.n.l.used.length ≤ 100000 → i64w k → Calls Tryz.prog 11 #[ptrH b, .int .i64 k] w fun e w' => e = .returned (.bool (h.has k)) ∧ Leaves (HG b nb) G w w' (h.does k)
  nodes : ∀ (b nb : Nat) (G : Nat → Prop) (w : World) (h : Hd), HG b nb G w h → Calls Tryz.prog 12 #[ptrH b] w fun e w' => e = .returned (ptrN nb) ∧ Below w.heap.size w w'
  nil_ask : ∀ (a : Ak) (fate : Int) (w : World), AkIn w a → i64w fate → Calls Tryz.prog 9 #[.pointer none, askV a, .int .i64 fate] w fun e w' => e = .returned (heardT zeroX false none 0) ∧ Below w.heap.size w w'
  nil_do : ∀ (k : Int) (w : World), i64w k → Calls Tryz.prog 11 #[.pointer none, .int .i64 k] w fun e w' => e = .returned (.bool false) ∧ Below w.heap.size w w'
  nil_nodes : ∀ (w : World), Calls Tryz.prog 12 #[.pointer none] w fun e w' => e = .returned (.pointer none) ∧ Below w.heap.size w w'
theorem plain_less (l : List Ak) (k : Nat) : (lessK l k).map Ak.plain = lessK (l.map Ak.plain) k := by
  unfold lessK
  rw [List.map_append, List.map_take, List.map_drop]
end Go.Proofs.YtchhmfdalghgcaaGreat
namespace Go.Proofs.YtchhmfdalghgcaaGreat
set_option linter.unusedVariables false
open Go.RowKit
set_option maxRecDepth 20000
/-- what units, sequencer and layout are -/
structure Three (UG : Nat → Nat → (Nat → Prop) → World → Us → Prop) (OG : Nat → (Nat → Prop) → World → Od → Prop) (LG : Nat → (Nat → Prop) → World → Ly → Prop) : Prop where
  u : UnitSays UG
  o : OrderSays OG
  l : LaySays LG
/-- the block of 18 pointers, of which the first m units' are there -/
structure TabP (A : Array Value) (m : Nat) (B : Nat → Nat × Nat) (ro rl : Nat) : Prop where
  size : A.size = 18
  at_ : ∀ i, i < m → A[i]? = some (ptrV (B i).1)
  o : A[16]? = some (ptrO ro)
  l : A[17]? = some (ptrL rl)
theorem TabP.put {A : Array Value} {m : Nat} {B : Nat → Nat × Nat} {ro rl : Nat} (h : TabP A m B ro rl) (hm : m < 16) (x : Nat × Nat) : TabP (A.setIfInBounds m (ptrV x.1)) (m + 1) (fun j => if j = m then x else B j) ro rl := by
  have hs := h.size
  refine ⟨by simp [hs], fun i hi => ?_, ?_, ?_⟩
  · by_cases e : i = m
    · subst e
      simp [hs, show i < 18 by omega]
    · rw [Array.getElem?_setIfInBounds_ne (fun h => e h.symm), if_neg e]
      exact h.at_ i (by omega)
  · rw [Array.getElem?_setIfInBounds_ne (by omega)]
    exact h.o
  · rw [Array.getElem?_setIfInBounds_ne (by omega)]
    exact h.l
/-- its parts, one after another -/
def nodeP (UG : Nat → Nat → (Nat → Prop) → World → Us → Prop) (OG : Nat → (Nat → Prop) → World → Od → Prop) (LG : Nat → (Nat → Prop) → World → Ly → Prop) (r : Nat) (A : Array Value) (ro rl : Nat) (B : Nat → Nat × Nat) (n : Nd) : Nat → (Nat → Prop) → World → Prop
  | 0 => fun F w => LG rl F w n.l
  | 1 => fun F w => OG ro F w n.o
  | 2 => fun F w => w.heap[r]? = some (.cells A 79 (0, 0)) ∧ ∀ k, F k ↔ k = r
  | i + 3 => fun F w => UG (B i).1 (B i).2 F w (n.u i)
theorem nodeP_part {UG : Nat → Nat → (Nat → Prop) → World → Us → Prop} {OG : Nat → (Nat → Prop) → World → Od → Prop} {LG : Nat → (Nat → Prop) → World → Ly → Prop} (HT : Three UG OG LG) (r : Nat) (A : Array Value) (ro rl : Nat) (B : Nat → Nat × Nat) (n : Nd) : ∀ i, Part (nodeP UG OG LG r A ro rl B n i)
  | 0 => (HT.l.thing rl).part n.l
  | 1 => (HT.o.thing ro).part n.o
  | 2 => ⟨fun h k hk => by rw [(h.2 k).1 hk]; exact lt_of_block h.1, fun h hk hS => ⟨hk.heap (hS r ((h.2 r).2 rfl)) h.1, h.2⟩⟩
  | i + 3 => (HT.u.thing (B i).1 (B i).2).part (n.u i)
/-- block r is the document's nodes -/
def RM (UG : Nat → Nat → (Nat → Prop) → World → Us → Prop) (OG : Nat → (Nat → Prop) → World → Od → Prop) (LG : Nat → (Nat → Prop) → World → Ly → Prop) (r : Nat) (G : Nat → Prop) (w : World) (n : Nd) : Prop := ∃ (A : Array Value) (ro rl : Nat) (B : Nat → Nat × Nat), TabP A 16 B ro rl ∧ BundG 19 (nodeP UG OG LG r A ro rl B n) G w
theorem rm_thing {UG : Nat → Nat → (Nat → Prop) → World → Us → Prop} {OG : Nat → (Nat → Prop) → World → Od → Prop} {LG : Nat → (Nat → Prop) → World → Ly → Prop} (HT : Three UG OG LG) (r : Nat) : Thing (RM UG OG LG r) where
  lt := by
    rintro G w n ⟨A, ro, rl, B, h1, h2⟩
    exact h2.lt (fun i _ => nodeP_part HT r A ro rl B n i)
  keep := by
    rintro G S w w' n ⟨A, ro, rl, B, h1, h2⟩ hk hS
    exact ⟨A, ro, rl, B, h1, h2.keep (fun i _ => nodeP_part HT r A ro rl B n i) hk hS⟩
section
variable {UG : Nat → Nat → (Nat → Prop) → World → Us → Prop} {OG : Nat → (Nat → Prop) → World → Od → Prop} {LG : Nat → (Nat → Prop) → World → Ly → Prop} {r : Nat} {A : Array Value} {ro rl : Nat} {B : Nat → Nat × Nat} {n : Nd} {G : Nat → Prop} {w : World}
theorem rm_putO (h1 : TabP A 16 B ro rl) {o : Od} {G' : Nat → Prop} {W : World} (h : BundG 19 (swapP (nodeP UG OG LG r A ro rl B n) 1 (fun F W => OG ro F W o)) G' W) : RM UG OG LG r G' W (n.putO o) :=
  ⟨A, ro, rl, B, h1, h.same (fun i _ F W hF => by match i, hF with | 0, hF => exact hF | 1, hF => exact hF | 2, hF => exact hF | j + 3, hF => exact hF)⟩
end
end Go.Proofs.YtchhmfdalghgcaaGreat
namespace Go.Proofs.YtchhmfdalghgcaaGreat
set_option linter.unusedVariables false
open Go.RowKit Go.Maps
set_option maxRecDepth 20000
end Go.Proofs.YtchhmfdalghgcaaGreat
