/- What the statements' own small function CopyProjection returns. Conditions: the projection lies where the call was told, and is not too large to be gone through. What the statements' own small functions LargeAsk and Answer return. Conditions: what is handed over lies where the call was told; the two answers are alike. The document's own unit in memory, and what its New makes. No conditions but those that the statements name. Plain facts on a hand: what becomes of questions of each fate, of those that are held. No conditions. What the laws of the sequencer ask of the program's functions: each one's contract, as a statement (proved where the program is spoken of); that order is awake. No conditions but those that the statements name. -/
import Derived.Test.YtchhmfdalghgcaaGreatG08b
import Derived.Test.YtchhmfdalghgcaaGreatG07b
import Derived.Test.YtchhmfdalghgcaaGreatG03a
import Derived.Test.YtchhmfdalghgcaaGreatG08a
set_option linter.unusedVariables false
namespace Go.Proofs.YtchhmfdalghgcaaGreat
set_option linter.unusedVariables false
open Go.RowKit
set_option maxRecDepth 20000

theorem bcell0 {B : Nat} {W w1 : World} (hb : Below B W w1) {b o : Nat} {v : Value} (h : W.cell? ⟨b, o, none⟩ = some v) (hl : b < B) : w1.cell? ⟨b, o, none⟩ = some v := (hb.cell (p := ⟨b, o, none⟩) hl).trans h
theorem bfree0 {B : Nat} {W w1 : World} (hb : Below B W w1) {b o : Nat} (h : W.frozen? ⟨b, o, none⟩ = false) (hl : b < B) : w1.frozen? ⟨b, o, none⟩ = false := (hb.frozen (p := ⟨b, o, none⟩) hl).trans h
theorem OC.lower {w : World} {B B' : Nat} {v : Value} {L : List (List Int)} (h : OC w B v L) (hb : B' ≤ B) : OC w B' v L := by
  obtain ⟨xs, h1, h2⟩ := h
  refine ⟨xs, ⟨h1.1, ?_⟩, fun i hi => ?_⟩
  · rcases h1.2 with h3 | ⟨g, cap, cur, h3, h4, r⟩
    · exact .inl h3
    · exact .inr ⟨g, cap, cur, h3, Nat.le_trans hb h4, r⟩
  · obtain ⟨ai, ci, h3, h4, h5⟩ := h2 i hi
    exact ⟨ai, ci, h3, h4, fun a e => ⟨Nat.le_trans hb (h5 a e).1, (h5 a e).2⟩⟩
set_option maxHeartbeats 2000000 in
theorem keepCopyO_any (ep : Int) (ao : Option Addr) (cap : Nat) (L : List (List Int)) (w : World) (h : CL w ao L) (hl : L.length ≤ 1000 ∧ ∀ c ∈ L, c.length ≤ 1000) :
    Calls Tryz.prog 23 #[.agg #[.int .i64 ep, .slice ao L.length cap]] w fun e w' => ∃ v, e = .returned (.agg #[.int .i64 ep, v]) ∧ OC w' w.heap.size v L ∧ Below w.heap.size w w' := by
  have HB0 := Lib.hid (((Below.refl w.heap.size w).alloc (Nat.le_refl _) (.cells #[.int .i64 ep, .slice ao L.length cap] 29)).alloc (by simp) (.cells #[.int .i64 0, .slice none 0 0] 29))
  have HC := Lib.hid h
  have hl' : (L.length : Int) ≤ 1000 := by omega
  have hl2 : L.length ≤ 1000 := hl.1
  have HM := Lib.hid hl.2
  clear h hl
  go_enter Tryz.func23, Tryz.ntmps23
  go_wp2_with fail
  go_loopw [3, 4] (fun v i wr => ∃ k : Nat, i = .int .i64 k ∧ k ≤ L.length ∧ OC wr (w.heap.size + 2) v (L.take k) ∧ Below (w.heap.size + 2) ((w.alloc (.cells #[.int .i64 ep, .slice ao L.length cap] 29)).alloc (.cells #[.int .i64 0, .slice none 0 0] 29)) wr) (fun _ i _ => L.length - (intOf i).toNat)
  case atStart => exact ⟨0, rfl, Nat.zero_le _, by rw [List.take_zero]; exact OC.nil _ _, Below.refl _ _⟩
  case round =>
    obtain ⟨k, rfl, hk, hO, hb⟩ := hrel
    have b1 : wr.cell? ⟨w.heap.size, 1, none⟩ = some (.slice ao L.length cap) := bcell0 hb (by simp) (by omega)
    have HW := Lib.hid (HB0.out.trans (hb.mono (by omega)))
    have hsz : w.heap.size + 2 ≤ wr.heap.size := by have := hb.size; simpa using this
    have hsz0 : w.heap.size < wr.heap.size := by omega
    by_cases hlt : k < L.length
    · obtain ⟨bk, off, ai, ci, hao, c0, hN⟩ := (HC.out.below HW.out) k hlt
      subst hao
      have hbk := block_lt_of_cell c0
      have m0 := HM.out L[k] (List.getElem_mem hlt)
      have hNd := Lib.hid hN
      have HT := Lib.hid (show L.take (k + 1) = L.take k ++ [L[k]] from List.take_succ_eq_append_getElem hlt)
      have HO := Lib.hid hO
      have HB := Lib.hid hb
      clear hN hO hb
      go_wp2_with (first
        | (refine wpList_app_ints (o := ⟨some 19, _, _, _, _, _⟩) rfl (.tmp 13) (.tmp 18) rfl (B := wr.heap.size) (v := .slice (some ⟨wr.heap.size, 0, none⟩) 0 0) (D := []) rfl (OI.made wr (Nat.le_refl _)) (ao := ai) (cap := ci) (l := L[k]) rfl rfl (hNd.out.alloc _) (by simp; omega) (by simp) ?_; intro v1 w1 hI hg _; rw [List.nil_append] at hI; obtain ⟨a1, c1, hv1, hN1, hA1, _⟩ := hI.form; have HG := Lib.hid (below_app hg (fun k e => by cases e; exact Nat.le_refl _)); have HN1 := Lib.hid hN1; have HA1 := Lib.hid (HO.out.apart hsz hA1); clear hI hg hN1 hA1; subst hv1)
        | (refine wpList_app_chain (o := ⟨some 21, _, _, _, _, _⟩) (w := w1) rfl (.tmp 12) (.tmp 20) rfl (B := w.heap.size + 2) (v := u3) (L := L.take k) rfl (HO.out.below HG.out) (ai := a1) (ci := c1) (l := L[k]) rfl HN1.out HA1.out (by simp; omega) (Nat.le_trans hsz HG.out.size) ?_; intro v2 w2 hO2 hb2; rw [← HT.out] at hO2; have HO2 := Lib.hid hO2; have HB2 := Lib.hid ((HB.out.trans (HG.out.mono hsz)).trans hb2); clear hO2 hb2))
      go_roundw
      case rel => exact ⟨k + 1, by go_num, by omega, HO2.out, HB2.out⟩
      case measure => simp [intOf]; omega
    · obtain rfl : k = L.length := by omega
      rw [List.take_of_length_le (Nat.le_refl _)] at hO
      obtain ⟨bo, cb, rfl, hC2, hn2, hl2, ha2⟩ := hO.form
      have b0 : wr.cell? ⟨w.heap.size, 0, none⟩ = some (.int .i64 ep) := bcell0 hb (by simp) (by omega)
      have f1 : wr.frozen? ⟨w.heap.size, 1, none⟩ = false := bfree0 hb (by simp) (by omega)
      have r0 : wr.cell? ⟨w.heap.size + 1, 0, none⟩ = some (.int .i64 0) := bcell0 hb (by simp) (by omega)
      have r1 : wr.cell? ⟨w.heap.size + 1, 1, none⟩ = some (.slice none 0 0) := bcell0 hb (by simp) (by omega)
      have g0 : wr.frozen? ⟨w.heap.size + 1, 0, none⟩ = false := bfree0 hb (by simp) (by omega)
      have g1 : wr.frozen? ⟨w.heap.size + 1, 1, none⟩ = false := bfree0 hb (by simp) (by omega)
      have HR := Lib.hid ((hb.block (w.heap.size + 1) (by omega)).trans (show _ = some (.cells #[.int .i64 0, .slice none 0 0] 29 (0, 0)) by have := heap_alloc_new (w.alloc (.cells #[.int .i64 ep, .slice ao L.length cap] 29)) (.cells #[.int .i64 0, .slice none 0 0] 29); simpa using this))
      have HO := Lib.hid hO
      clear hO hC2 hn2 hl2 ha2 hb
      go_wp2_with fail
      have hR1 := two_set1 (two_set0 ((((Kept.refl (fun k => k = w.heap.size + 1) wr).setCell (p := ⟨w.heap.size, 1, none⟩) (by simp) (.slice bo L.length cb)).heap rfl HR.out)) (.int .i64 ep)) (.slice bo L.length cb)
      have hK := (((Kept.refl (fun k => w.heap.size + 2 ≤ k) wr).setCell (p := ⟨w.heap.size, 1, none⟩) (by simp) (.slice bo L.length cb)).setCell (p := ⟨w.heap.size + 1, 0, none⟩) (by simp) (.int .i64 ep)).setCell (p := ⟨w.heap.size + 1, 1, none⟩) (by simp) (.slice bo L.length cb)
      have hO2 := HO.out.keep hK (fun _ h _ => h)
      exact proj_ret rfl hR1 rfl rfl ⟨_, rfl, hO2.lower (by omega), ((HW.out.setCell (by simp) _).setCell (by simp) _).setCell (by simp) _⟩
end Go.Proofs.YtchhmfdalghgcaaGreat
namespace Go.Proofs.YtchhmfdalghgcaaGreat
set_option linter.unusedVariables false
open Go.RowKit
set_option maxRecDepth 20000
end Go.Proofs.YtchhmfdalghgcaaGreat
namespace Go.Proofs.YtchhmfdalghgcaaGreat
set_option linter.unusedVariables false
open Go.RowKit
set_option maxRecDepth 20000
def ptrU (b : Nat) : Value := .pointer (some ⟨b, 0, none⟩)
/-- block r is the document's unit, block q its pages -/
def RU (r q : Nat) (G : Nat → Prop) (w : World) (u : Us) : Prop :=
  (u.p.Ok ∧ i64w u.epoch) ∧ w.heap[r]? = some (.cells #[ptrU q, .int .i64 u.epoch, .bool u.down] 136 (0, 0)) ∧ G r ∧ ∃ F : Nat → Prop, RG F w q u.p ∧ (∀ k, F k → G k) ∧ ¬ F r ∧ ∀ k, G k → F k ∨ k = r
theorem rg_lt {G : Nat → Prop} {w : World} {b : Nat} {p : Ps} (h : RG G w b p) : ∀ k, G k → k < w.heap.size := by
  obtain ⟨v, _, _, _, _, h5⟩ := h
  exact h5
theorem ru_thing (r q : Nat) : Thing (RU r q) where
  lt := by
    rintro G w u ⟨_, h1, _, F, h3, _, _, h6⟩ k hk
    rcases h6 k hk with h | h
    · exact rg_lt h3 k h
    · rw [h]; exact lt_of_block h1
  keep := by
    rintro G S w w' u ⟨h0, h1, h2, F, h3, h4, h5, h6⟩ hk hS
    exact ⟨h0, hk.heap (hS r h2) h1, h2, F, h3.keep hk (fun k hf => hS k (h4 k hf)), h4, h5, h6⟩
theorem ru_new_yes (room : Int) (w : World) (h : 1 ≤ room ∧ room ≤ 4096) :
    Calls Tryz.prog 43 #[.int .i64 room] w fun e w' => ∃ (r q : Nat) (G : Nat → Prop), e = .returned (.tuple #[ptrU r, .int .i64 0]) ∧ RU r q G w' (newU room) ∧ (∀ k, G k → w.heap.size ≤ k) ∧ Below w.heap.size w w' := by
  have CN := Lib.hid (rnew_yes room w h)
  have HN := Lib.hid (newP_ok h)
  go_enter Tryz.func43, Tryz.ntmps43
  go_wp2_with (go_at_call 58; refine CN.out.mono ?_; rintro e w1 ⟨rfl, hg1, hb1⟩; have HG := Lib.hid hg1; have HB := Lib.hid hb1; clear hg1 hb1)
  go_ret2
  have hlt := rg_lt HG.out w.heap.size rfl
  have hb2 : Below w1.heap.size w1 (w1.alloc (.cells #[.pointer (some ⟨w.heap.size, 0, none⟩), .int .i64 0, .bool false] 136)) := (Below.refl _ _).alloc (Nat.le_refl _) _
  refine ⟨w1.heap.size, w.heap.size, fun k => k = w.heap.size ∨ k = w1.heap.size, rfl, ⟨⟨HN.out, WalkArith.wf_i64 (n := 0) (by decide)⟩, heap_alloc_new _ _, .inr rfl, fun k => k = w.heap.size, HG.out.below hb2, fun k hk => .inl hk, by omega, fun k hk => hk⟩, fun k hk => by rcases hk with h | h <;> omega, HB.out.alloc HB.out.size _⟩
end Go.Proofs.YtchhmfdalghgcaaGreat
namespace Go.Proofs.YtchhmfdalghgcaaGreat
set_option linter.unusedVariables false
open Go.RowKit
/-- a hand: the nodes, what is held -/
structure Hd where
  n : Nd
  held : List Ak
def zeroX : An := anP 0 0 noS 0
/-- a question less where its chains lie -/
def Ak.plain (a : Ak) : Ak := ⟨a.kind, a.unit, a.epoch, a.page, a.size, a.n, a.data, a.pe, a.L, none, 0⟩
theorem plain_done (n : Nd) (a : Ak) : n.done a.plain = n.done a := rfl
def lessK (l : List Ak) (k : Nat) : List Ak := l.take k ++ l.drop (k + 1)
def Hd.heard (h : Hd) (a : Ak) (fate : Int) : An := if fate = 0 then h.n.ans a else zeroX
def Hd.asked (h : Hd) (a : Ak) (fate : Int) : Hd :=
  if fate = 0 ∨ fate = 2 then ⟨h.n.done a, h.held⟩ else if fate = 3 ∧ h.held.length < 64 then ⟨h.n, h.held ++ [a]⟩ else h
/-- is there a k-th? -/
def Hd.has (h : Hd) (k : Int) : Bool := decide (0 ≤ k) && decide (k < h.held.length)
def Hd.does (h : Hd) (k : Int) : Hd := if hk : 0 ≤ k ∧ k < h.held.length then ⟨h.n.done (h.held[k.toNat]'(by omega)), lessK h.held k.toNat⟩ else h
theorem lessK_length {l : List Ak} {k : Nat} (h : k < l.length) : (lessK l k).length + 1 = l.length := by
  unfold lessK
  rw [List.length_append, List.length_take, List.length_drop]
  omega
theorem lessK_mem {l : List Ak} {k : Nat} {a : Ak} (h : a ∈ lessK l k) : a ∈ l := by
  unfold lessK at h
  rcases List.mem_append.1 h with h | h
  · exact List.mem_of_mem_take h
  · exact List.mem_of_mem_drop h
theorem asked_held (h : Hd) (a : Ak) (fate : Int) : (h.held.length ≤ 64 → (h.asked a fate).held.length ≤ 64) ∧ ∀ x ∈ (h.asked a fate).held, x ∈ h.held ∨ x = a := by
  unfold Hd.asked
  split
  · exact ⟨id, fun x hx => .inl hx⟩
  split
  · next hc =>
    refine ⟨fun _ => by show (h.held ++ [a]).length ≤ 64; rw [List.length_append, List.length_singleton]; omega, fun x hx => ?_⟩
    rcases List.mem_append.1 hx with h1 | h1
    · exact .inl h1
    · exact .inr (List.mem_singleton.1 h1)
  · exact ⟨id, fun x hx => .inl hx⟩
end Go.Proofs.YtchhmfdalghgcaaGreat
namespace Go.Proofs.YtchhmfdalghgcaaGreat
set_option linter.unusedVariables false
open Go.RowKit
set_option maxRecDepth 20000
/-- OG b G w o: in world w block b is the program's sequencer o; it and all that it owns lie in G. The program's functions return what is said here -/
structure OrderSays (OG : Nat → (Nat → Prop) → World → Od → Prop) : Prop where
  thing : ∀ b, Thing (OG b)
  ok : ∀ {b : Nat} {G : Nat → Prop} {w : World} {o : Od}, OG b G w o → o.Ok
  new : ∀ (w : World), Calls Tryz.prog 38 #[] w fun e w' => ∃ (b : Nat) (G : Nat → Prop), e = .returned (ptrO b) ∧ OG b G w' newO ∧ (∀ k, G k → w.heap.size ≤ k) ∧ Below w.heap.size w w'
  ask : ∀ (b : Nat) (G : Nat → Prop) (w : World) (o : Od) (a : Ak), OG b G w o → AkIn w a → Calls Tryz.prog 40 #[ptrO b, askV a] w fun e w' => e = .returned (anW (o.ans a).code (o.ans a).n (o.ans a).data (o.ans a).epoch) ∧ Leaves (OG b) G w w' (o.done a)
  crash : ∀ (b : Nat) (G : Nat → Prop) (w : World) (o : Od), OG b G w o → Calls Tryz.prog 14 #[ptrO b] w fun e w' => e = .returned (.tuple #[]) ∧ Leaves (OG b) G w w' ⟨o.epoch, o.tail, false⟩
section
variable {OG : Nat → (Nat → Prop) → World → Od → Prop} {X : Nat → Prop} {w : World} {b : Nat} {o : Od}
end
end Go.Proofs.YtchhmfdalghgcaaGreat
