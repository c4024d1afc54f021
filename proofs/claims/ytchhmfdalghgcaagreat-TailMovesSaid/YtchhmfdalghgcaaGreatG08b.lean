/- What the document's own Trim makes of pages. Conditions: the object lies where the call was told; its pages are as the calls make them. What the statements' own small functions Projection and CopyProjection return. Conditions: the projections lie where the call was told, and are not too large to be gone through. What the document's own Has returns. Conditions: the list lies where the call was told. Plain facts on all nodes: what each question makes of them, and is answered. No conditions. The world in which a call has boxed its question and laid out its answer, beside a thing that lies in blocks of its own. No conditions. What the laws of units ask of the program's functions: each one's contract, as a statement (proved where the program is spoken of); that unit is awake. No conditions but those that the statements name. The document's own sequencer in memory: what its New makes, and the world in its Do. No conditions but those that the statements name. (Written by gen/genord.py.) The world in which a call has boxed what it was handed and laid out its result (both of any make), beside a thing that lies in blocks of its own. No conditions. -/
import Derived.Test.YtchhmfdalghgcaaGreatG07a
import Derived.Test.YtchhmfdalghgcaaGreatG07b
import Derived.Laws.Rows
import Derived.Laws.Tables
import Derived.Laws.CopyOwn
import Derived.Test.YtchhmfdalghgcaaGreatG03a
set_option linter.unusedVariables false
namespace Go.Proofs.YtchhmfdalghgcaaGreat
open Go.RowKit
set_option maxRecDepth 20000
/-- the pages from an edge on -/
def fromP (l : List Pg) (m : Int) : List Pg := l.filter (fun x => decide (m ≤ x.at_))
end Go.Proofs.YtchhmfdalghgcaaGreat
namespace Go.Proofs.YtchhmfdalghgcaaGreat
set_option linter.unusedVariables false
open Go.RowKit
set_option maxRecDepth 20000

theorem proj_ret {fn : Func} {p : Tmp} (h : fn.results = #[.cell p 29]) {a : Act} {w : World} {g : Nat} {x y : Value} {R : Ending → World → Prop}
    (hg : w.heap[g]? = some (.cells #[x, y] 29 (0, 0))) (hp : a.tmps.getD p undef = .pointer (some ⟨g, 0, none⟩)) (hd : a.defers = [])
    (hR : R (.returned (.agg #[x, y])) w) : bodyPost Tryz.prog fn R .ret a w :=
  bodyPost_ret (results_cell_row h a.tmps w g 29 #[x, y] (0, 0) _ hp hg Tryz.underlying29 rfl (by kernel_rfl)) hd hR
/-- are two projections alike? -/
def sameP (ea : Int) (A : List (List Int)) (eb : Int) (B : List (List Int)) : Bool := decide (ea = eb ∧ A = B)
theorem sameP_ep {ea eb : Int} {A B : List (List Int)} (h : ea ≠ eb) : sameP ea A eb B = false := decide_eq_false (fun e => h e.1)
theorem sameP_len {ea eb : Int} {A B : List (List Int)} (h : A.length ≠ B.length) : sameP ea A eb B = false := decide_eq_false (fun e => h (by rw [e.2]))
theorem takeC_succ {A B : List (List Int)} {k : Nat} (ha : k < A.length) (hb : k < B.length) (h : A.take k = B.take k) (e : A[k] = B[k]) : A.take (k + 1) = B.take (k + 1) := by
  rw [List.take_succ_eq_append_getElem ha, List.take_succ_eq_append_getElem hb, h, e]
theorem sameP_at {ea eb : Int} {A B : List (List Int)} {k : Nat} (ha : k < A.length) (hb : k < B.length) (e : A[k] ≠ B[k]) : sameP ea A eb B = false := decide_eq_false (by
  rintro ⟨_, h⟩
  subst h
  exact e rfl)
theorem sameP_all {ea eb : Int} {A B : List (List Int)} (h : ea = eb) (hl : A.length = B.length) (e : A.take A.length = B.take A.length) : sameP ea A eb B = true := by
  rw [List.take_of_length_le (Nat.le_refl _), List.take_of_length_le (by omega)] at e
  exact decide_eq_true ⟨h, e⟩
set_option maxHeartbeats 1000000 in
theorem keepProj_any (ea : Int) (ao : Option Addr) (ca : Nat) (A : List (List Int)) (eb : Int) (bo : Option Addr) (cb : Nat) (B : List (List Int)) (w : World) (hA : CL w ao A) (hB : CL w bo B)
    (lA : A.length ≤ 1000000 ∧ ∀ c ∈ A, c.length ≤ 1000000) (lB : B.length ≤ 1000000 ∧ ∀ c ∈ B, c.length ≤ 1000000) :
    Calls Tryz.prog 19 #[.agg #[.int .i64 ea, .slice ao A.length ca], .agg #[.int .i64 eb, .slice bo B.length cb]] w fun e w' => e = .returned (.bool (sameP ea A eb B)) ∧ Below w.heap.size w w' := by
  have HB0 := Lib.hid (((Below.refl w.heap.size w).alloc (Nat.le_refl _) (.cells #[.int .i64 ea, .slice ao A.length ca] 29)).alloc (by simp) (.cells #[.int .i64 eb, .slice bo B.length cb] 29))
  have HA := Lib.hid (hA.below HB0.out)
  have HB := Lib.hid (hB.below HB0.out)
  have lA' : (A.length : Int) ≤ 1000000 := by omega
  have lB' : (B.length : Int) ≤ 1000000 := by omega
  have LA := Lib.hid lA.2
  have LB := Lib.hid lB.2
  clear hA hB lA lB
  by_cases he : ea = eb
  · have hd1 : (ea != eb) = false := bne_eq_false_iff_eq.2 he
    by_cases hl : A.length = B.length
    · have HN := Lib.hid (fun k (ha : k < A.length) (hb : k < B.length) => @sameP_at ea eb A B k ha hb)
      have HY := Lib.hid (@sameP_all ea eb A B he hl)
      have hl1 : ((A.length : Int) != (B.length : Int)) = false := bne_eq_false_iff_eq.2 (by omega)
      have HL := Lib.hid hl
      generalize sameP ea A eb B = R at *
      clear he hl
      go_enter Tryz.func19, Tryz.ntmps19
      go_wp2_with fail
      go_loopw [5] (fun i wr => ∃ k q : Nat, i = .int .i64 k ∧ k ≤ A.length ∧ wr = (((w.alloc (.cells #[.int .i64 ea, .slice ao A.length ca] 29)).alloc (.cells #[.int .i64 eb, .slice bo B.length cb] 29))).drewN q ∧ Hid (A.take k = B.take k)) (fun i _ => A.length - (intOf i).toNat)
      case atStart => exact ⟨0, 0, rfl, Nat.zero_le _, rfl, Lib.hid (by simp)⟩
      case round =>
        obtain ⟨k, q, rfl, hk, rfl, HT⟩ := hrel
        by_cases hlt : k < A.length
        · have hlb : k < B.length := by have := HL.out; omega
          obtain ⟨bk, off, ai, ci, hao, c0, hN1⟩ := HA.out k hlt
          obtain ⟨bk2, off2, bi, di, hbo, c1, hN2⟩ := HB.out k hlb
          subst hao hbo
          have k0 : (k : Int) < (A.length : Int) := by omega
          have k1 : (k : Int) < (B.length : Int) := by omega
          have m0 := LA.out A[k] (List.getElem_mem hlt)
          have m1 := LB.out B[k] (List.getElem_mem hlb)
          have CI := Lib.hid (fun n => quiet_drq (w := ((w.alloc (.cells #[.int .i64 ea, .slice (some ⟨bk, off, none⟩) A.length ca] 29)).alloc (.cells #[.int .i64 eb, .slice (some ⟨bk2, off2, none⟩) B.length cb] 29))) (q := q) (n := n) (keepInts_any A[k] B[k] ai bi ci di _ (hN1.below (below_drewN (Below.refl _ _) _)) (hN2.below (below_drewN (Below.refl _ _) _)) m0 m1))
          clear hl1 hd1 hN1 hN2 m0 m1
          by_cases he : A[k] = B[k]
          · have HT2 := Lib.hid (takeC_succ hlt hlb HT.out he)
            have HI := Lib.hid (show intsB A[k] B[k] = true from decide_eq_true he)
            rw [HI.out] at CI
            clear he
            go_wp2_with fail
            go_quiet ((go_at_call 35; exact CI.out _))
            go_wp2_with fail
            go_roundw
            case rel => exact ⟨k + 1, q + nq, by go_num, by omega, by first | rfl | simp, HT2⟩
            case measure => simp [intOf]; omega
          · have HX := Lib.hid (HN.out k hlt hlb he)
            have HI := Lib.hid (show intsB A[k] B[k] = false from decide_eq_false he)
            rw [HI.out] at CI
            clear he
            go_wp2_with fail
            go_quiet ((go_at_call 35; exact CI.out _))
            go_wp2_with fail
            go_ret
            rw [HX.out]
            exact ⟨rfl, below_drewN (below_drewN HB0.out _) _⟩
        · obtain rfl : k = A.length := by omega
          have HX := Lib.hid (HY.out HT.out)
          go_wp2_with fail
          go_ret
          rw [HX.out]
          exact ⟨rfl, below_drewN HB0.out _⟩
    · have HX := Lib.hid (@sameP_len ea eb A B hl)
      have hl1 : ((A.length : Int) != (B.length : Int)) = true := bne_iff_ne.2 (by omega)
      clear he hl
      go_enter Tryz.func19, Tryz.ntmps19
      go_wp2_with fail
      go_ret
      rw [HX.out]
      exact ⟨rfl, HB0.out⟩
  · have HX := Lib.hid (@sameP_ep ea eb A B he)
    have hd1 : (ea != eb) = true := bne_iff_ne.2 he
    clear he
    go_enter Tryz.func19, Tryz.ntmps19
    go_wp2_with fail
    go_ret
    rw [HX.out]
    exact ⟨rfl, HB0.out⟩
end Go.Proofs.YtchhmfdalghgcaaGreat
namespace Go.Proofs.YtchhmfdalghgcaaGreat
set_option linter.unusedVariables false
open Go.RowKit
set_option maxRecDepth 20000

/-- is a number in a list? -/
def hasB (l : List Int) (u : Int) : Bool := decide (u ∈ l)
end Go.Proofs.YtchhmfdalghgcaaGreat
namespace Go.Proofs.YtchhmfdalghgcaaGreat
set_option linter.unusedVariables false
open Go.RowKit
/-- all nodes: the units, the sequencer, the layout -/
structure Nd where
  u : Nat → Us
  o : Od
  l : Ly
/-- one unit is another then -/
def Nd.putU (n : Nd) (i : Nat) (x : Us) : Nd := ⟨fun j => if j = i then x else n.u j, n.o, n.l⟩
def Nd.putO (n : Nd) (x : Od) : Nd := ⟨n.u, x, n.l⟩
def Nd.putL (n : Nd) (x : Ly) : Nd := ⟨n.u, n.o, x⟩
theorem putU_at (n : Nd) (i : Nat) (x : Us) : (n.putU i x).u i = x := if_pos rfl
theorem putU_off (n : Nd) {i j : Nat} (x : Us) (h : j ≠ i) : (n.putU i x).u j = n.u j := if_neg h
def Nd.ans (n : Nd) (a : Ak) : An :=
  if 1 ≤ a.kind ∧ a.kind ≤ 5 then (if 0 ≤ a.unit ∧ a.unit ≤ 15 then (n.u a.unit.toNat).ans a else anP 1 0 noS 0)
  else if 6 ≤ a.kind ∧ a.kind ≤ 8 then n.o.ans a
  else if 9 ≤ a.kind ∧ a.kind ≤ 11 then n.l.ans a
  else anP 1 0 noS 0
def Nd.done (n : Nd) (a : Ak) : Nd :=
  if 1 ≤ a.kind ∧ a.kind ≤ 5 then (if 0 ≤ a.unit ∧ a.unit ≤ 15 then n.putU a.unit.toNat ((n.u a.unit.toNat).done a) else n)
  else if 6 ≤ a.kind ∧ a.kind ≤ 8 then n.putO (n.o.done a)
  else if 9 ≤ a.kind ∧ a.kind ≤ 11 then n.putL (n.l.done a)
  else n
/-- the sequencer was told to start -/
def startA (ep : Int) : Ak := ⟨8, 0, ep, 0, 0, 0, ⟨#[]⟩, 0, [], none, 0⟩
def newN (ep : Int) (L : List (List Int)) (room : Int) : Nd := ⟨fun _ => newU room, newO.done (startA ep), newL ep L⟩
/-- nodes as the calls make them -/
structure Nd.Ok (n : Nd) (k : Nat) : Prop where
  few : n.l.used.length ≤ 16 * k
end Go.Proofs.YtchhmfdalghgcaaGreat
namespace Go.Proofs.YtchhmfdalghgcaaGreat
set_option linter.unusedVariables false
open Go.RowKit
set_option maxRecDepth 20000
def zeroAn : Array Value := #[.int .i64 0, .int .i64 0, .string ⟨#[]⟩, .int .i64 0, .slice none 0 0, .int .i64 0, .int .i64 0, .int .i64 0]
/-- the call began in w; it is in W now -/
structure Boxed {α : Type} (T : (Nat → Prop) → World → α → Prop) (w W : World) (G : Nat → Prop) (s : α) (A : Array Value) : Prop where
  ask : W.heap[w.heap.size]? = some (.cells A 37 (0, 0))
  ans : W.heap[w.heap.size + 1]? = some (.cells zeroAn 33 (0, 0))
  th : ∃ H : Nat → Prop, T H W s ∧ ∀ k, H k → G k ∨ w.heap.size + 1 < k
  kp : Kept (fun k => ¬ G k) w W
  lt : ∀ k, G k → k < w.heap.size
section
variable {α : Type} {T : (Nat → Prop) → World → α → Prop} {w W : World} {G : Nat → Prop} {s s' : α} {A : Array Value}
theorem boxed_start (hT : Thing T) (h : T G w s) (A : Array Value) : Boxed T w ((w.alloc (.cells A 37)).alloc (.cells zeroAn 33)) G s A := by
  have hb : Below w.heap.size w ((w.alloc (.cells A 37)).alloc (.cells zeroAn 33)) := ((Below.refl _ _).alloc (Nat.le_refl _) _).alloc (by simp) _
  obtain ⟨h1, h2⟩ := two_blocks w A zeroAn 37 33
  exact ⟨h1, h2, ⟨G, hT.keep h (Kept.ofBelow hb (fun _ => True)) (fun _ _ => trivial), fun k hk => .inl hk⟩, Kept.ofBelow hb _, fun k hk => hT.lt h k hk⟩
theorem Boxed.below (hT : Thing T) (h : Boxed T w W G s A) {W2 : World} (hb : Below W.heap.size W W2) : Boxed T w W2 G s A := by
  obtain ⟨H, h1, h2⟩ := h.th
  exact ⟨below_heap hb h.ask, below_heap hb h.ans, ⟨H, hT.keep h1 (Kept.ofBelow hb (fun _ => True)) (fun _ _ => trivial), h2⟩, h.kp.below hb, h.lt⟩
theorem Boxed.drewN (hT : Thing T) (h : Boxed T w W G s A) (n : Nat) : Boxed T w (W.drewN n) G s A := h.below hT (below_drewN (Below.refl _ _) n)
theorem Boxed.small (h : Boxed T w W G s A) : w.heap.size < W.heap.size ∧ w.heap.size + 1 < W.heap.size := ⟨lt_of_block h.ask, lt_of_block h.ans⟩
theorem Boxed.leaves (h : Boxed T w W G s A) : Leaves T G w W s := by
  obtain ⟨H, h1, h2⟩ := h.th
  exact ⟨H, h1, h.kp, fun k hk => (h2 k hk).imp id (fun h => by omega)⟩
/-- a call, or a store, on the thing; what it leaves may be told as another thing -/
theorem Boxed.use2 (h : Boxed T w W G s A) : ∃ H : Nat → Prop, T H W s ∧ (∀ W2, Kept (fun k => ¬ H k) W W2 → Kept (fun k => ¬ G k) w W2) ∧ ∀ {β : Type} (U : (Nat → Prop) → World → β → Prop) W2 (s' : β), Leaves U H W W2 s' → Boxed U w W2 G s' A := by
  obtain ⟨H, h1, h2⟩ := h.th
  obtain ⟨s1, s2⟩ := h.small
  have off : ∀ k, k < W.heap.size → ¬ G k → k ≤ w.heap.size + 1 → ¬ H k := fun k _ hg hk hf => by
    rcases h2 k hf with h3 | h3
    · exact hg h3
    · omega
  have ng : ∀ k, w.heap.size ≤ k → ¬ G k := fun k hk hg => by have := h.lt k hg; omega
  have kk : ∀ W2, Kept (fun k => ¬ H k) W W2 → Kept (fun k => ¬ G k) w W2 := fun W2 r2 => by
    have hk := h.kp
    refine ⟨r2.os.trans hk.os, r2.tape.trans hk.tape, r2.output.trans hk.output, Nat.le_trans hk.size r2.size, fun k hg hkl => ?_⟩
    rw [r2.block k (off k (Nat.lt_of_lt_of_le hkl hk.size) hg (by omega)) (Nat.lt_of_lt_of_le hkl hk.size)]
    exact hk.block k hg hkl
  refine ⟨H, h1, kk, fun U W2 s' hl => ?_⟩
  obtain ⟨H', r1, r2, r3⟩ := hl
  refine ⟨r2.heap (off _ s1 (ng _ (by omega)) (by omega)) h.ask, r2.heap (off _ s2 (ng _ (by omega)) (by omega)) h.ans, ⟨H', r1, fun k hk => ?_⟩, kk W2 r2, h.lt⟩
  rcases r3 k hk with h3 | h3
  · exact h2 k h3
  · exact .inr (by omega)
/-- a call, or a store, on the thing -/
theorem Boxed.use (h : Boxed T w W G s A) : ∃ H : Nat → Prop, T H W s ∧ ∀ W2 s', Leaves T H W W2 s' → Boxed T w W2 G s' A := by
  obtain ⟨H, h1, _, h3⟩ := h.use2
  exact ⟨H, h1, fun W2 s' hl => h3 T W2 s' hl⟩
set_option maxHeartbeats 1000000 in
theorem Boxed.fin (hT : Thing T) (h : Boxed T w W G s A) {v0 v1 v2 v3 v4 v5 v6 v7 : Value} :
    ((((((((W.setCell ⟨w.heap.size + 1, 0, none⟩ v0).setCell ⟨w.heap.size + 1, 1, none⟩ v1).setCell ⟨w.heap.size + 1, 2, none⟩ v2).setCell ⟨w.heap.size + 1, 3, none⟩ v3).setCell ⟨w.heap.size + 1, 4, none⟩ v4).setCell ⟨w.heap.size + 1, 5, none⟩ v5).setCell ⟨w.heap.size + 1, 6, none⟩ v6).setCell ⟨w.heap.size + 1, 7, none⟩ v7).heap[w.heap.size + 1]? = some (.cells #[v0, v1, v2, v3, v4, v5, v6, v7] 33 (0, 0)) ∧ Leaves T G w ((((((((W.setCell ⟨w.heap.size + 1, 0, none⟩ v0).setCell ⟨w.heap.size + 1, 1, none⟩ v1).setCell ⟨w.heap.size + 1, 2, none⟩ v2).setCell ⟨w.heap.size + 1, 3, none⟩ v3).setCell ⟨w.heap.size + 1, 4, none⟩ v4).setCell ⟨w.heap.size + 1, 5, none⟩ v5).setCell ⟨w.heap.size + 1, 6, none⟩ v6).setCell ⟨w.heap.size + 1, 7, none⟩ v7) s := by
  constructor
  · exact (eight_set7 (eight_set6 (eight_set5 (eight_set4 (eight_set3 (eight_set2 (eight_set1 (eight_set0 h.ans _) _) _) _) _) _) _) _)
  · obtain ⟨H, h1, h2⟩ := h.th
    have hk : Kept (fun k => k ≠ w.heap.size + 1) W ((((((((W.setCell ⟨w.heap.size + 1, 0, none⟩ v0).setCell ⟨w.heap.size + 1, 1, none⟩ v1).setCell ⟨w.heap.size + 1, 2, none⟩ v2).setCell ⟨w.heap.size + 1, 3, none⟩ v3).setCell ⟨w.heap.size + 1, 4, none⟩ v4).setCell ⟨w.heap.size + 1, 5, none⟩ v5).setCell ⟨w.heap.size + 1, 6, none⟩ v6).setCell ⟨w.heap.size + 1, 7, none⟩ v7) := (((((((((Kept.refl _ W).setCell (p := ⟨w.heap.size + 1, 0, none⟩) (fun h => h rfl) _).setCell (p := ⟨w.heap.size + 1, 1, none⟩) (fun h => h rfl) _).setCell (p := ⟨w.heap.size + 1, 2, none⟩) (fun h => h rfl) _).setCell (p := ⟨w.heap.size + 1, 3, none⟩) (fun h => h rfl) _).setCell (p := ⟨w.heap.size + 1, 4, none⟩) (fun h => h rfl) _).setCell (p := ⟨w.heap.size + 1, 5, none⟩) (fun h => h rfl) _).setCell (p := ⟨w.heap.size + 1, 6, none⟩) (fun h => h rfl) _).setCell (p := ⟨w.heap.size + 1, 7, none⟩) (fun h => h rfl) _)
    refine ⟨H, hT.keep h1 hk (fun k hk e => ?_), (kept_new (kept_new (kept_new (kept_new (kept_new (kept_new (kept_new (kept_new h.kp (by omega) _) (by omega) _) (by omega) _) (by omega) _) (by omega) _) (by omega) _) (by omega) _) (by omega) _), fun k hk => (h2 k hk).imp id (fun h => by omega)⟩
    rcases h2 k hk with h3 | h3
    · have := h.lt k h3; omega
    · omega
end
end Go.Proofs.YtchhmfdalghgcaaGreat
namespace Go.Proofs.YtchhmfdalghgcaaGreat
set_option linter.unusedVariables false
open Go.RowKit
set_option maxRecDepth 20000
def ptrV (b : Nat) : Value := .pointer (some ⟨b, 0, none⟩)
/-- an answer that tells no projection, as a value -/
def anV (c n : Int) (s : ByteArray) (e : Int) : Value := .agg #[.int .i64 c, .int .i64 n, .string s, .int .i64 0, .slice none 0 0, .int .i64 0, .int .i64 0, .int .i64 e]
theorem ansV_U (u : Us) (a : Ak) : ansV (u.ans a) none 0 = anV (u.ans a).code (u.ans a).n (u.ans a).data (u.ans a).epoch := by
  unfold Us.ans
  repeat' split
  all_goals rfl
/-- UG b pb G w u: in world w block b is the program's unit u, block pb its pages; it and all that it owns lie in G. The program's functions return what is said here -/
structure UnitSays (UG : Nat → Nat → (Nat → Prop) → World → Us → Prop) : Prop where
  thing : ∀ b pb, Thing (UG b pb)
  ok : ∀ {b pb : Nat} {G : Nat → Prop} {w : World} {u : Us}, UG b pb G w u → u.p.Ok ∧ i64w u.epoch
  new_yes : ∀ (room : Int) (w : World), 1 ≤ room ∧ room ≤ 4096 → Calls Tryz.prog 39 #[.int .i64 room] w fun e w' => ∃ (b pb : Nat) (G : Nat → Prop), e = .returned (.tuple #[ptrV b, .int .i64 0]) ∧ UG b pb G w' (newU room) ∧ (∀ k, G k → w.heap.size ≤ k) ∧ Below w.heap.size w w'
  new_no : ∀ (room : Int) (w : World), room < 1 ∨ 4096 < room → i64w room → Calls Tryz.prog 39 #[.int .i64 room] w fun e w' => e = .returned (.tuple #[.pointer none, .int .i64 1]) ∧ Below w.heap.size w w'
  ask : ∀ (b pb : Nat) (G : Nat → Prop) (w : World) (u : Us) (a : Ak), UG b pb G w u → AkIn w a → a.data.size ≤ 1000000 → Calls Tryz.prog 122 #[ptrV b, askV a] w fun e w' => e = .returned (anV (u.ans a).code (u.ans a).n (u.ans a).data (u.ans a).epoch) ∧ Leaves (UG b pb) G w w' (u.done a)
  tail : ∀ (b pb : Nat) (G : Nat → Prop) (w : World) (u : Us), UG b pb G w u → Calls Tryz.prog 135 #[ptrV pb] w fun e w' => e = .returned (.int .i64 u.p.tail) ∧ Below w.heap.size w w'
  nil_ask : ∀ (a : Ak) (w : World), AkIn w a → a.data.size ≤ 1000000 → Calls Tryz.prog 122 #[.pointer none, askV a] w fun e w' => e = .returned (anV 1 0 noS 0) ∧ Below w.heap.size w w'
section
variable {UG : Nat → Nat → (Nat → Prop) → World → Us → Prop} {X : Nat → Prop} {w : World} {b pb : Nat} {u : Us}
end
/-- a question without a projection -/
def akP (kind epoch page : Int) (s : ByteArray) : Ak := ⟨kind, 0, epoch, page, 0, 0, s, 0, [], none, 0⟩
theorem i64w_small {x : Int} (h : -1000000000000 ≤ x ∧ x ≤ 1000000000000) : i64w x := WalkArith.wf_i64 (by omega)
end Go.Proofs.YtchhmfdalghgcaaGreat
namespace Go.Proofs.YtchhmfdalghgcaaGreat
set_option linter.unusedVariables false
open Go.RowKit
set_option maxRecDepth 20000
def ptrO (b : Nat) : Value := .pointer (some ⟨b, 0, none⟩)
/-- block r is the document's sequencer -/
def RO (r : Nat) (G : Nat → Prop) (w : World) (o : Od) : Prop := o.Ok ∧ w.heap[r]? = some (.cells #[.int .i64 o.epoch, .int .i64 o.tail, .bool o.knows] 131 (0, 0)) ∧ ∀ k, G k ↔ k = r
theorem ro_thing (r : Nat) : Thing (RO r) where
  lt := by
    rintro G w u ⟨_, h1, h2⟩ k hk
    rw [(h2 k).1 hk]
    exact lt_of_block h1
  keep := by
    rintro G S w w' u ⟨h0, h1, h2⟩ hk hS
    exact ⟨h0, hk.heap (hS r ((h2 r).2 rfl)) h1, h2⟩
theorem ro_new (w : World) : Calls Tryz.prog 42 #[] w fun e w' => ∃ (r : Nat) (G : Nat → Prop), e = .returned (ptrO r) ∧ RO r G w' newO ∧ (∀ k, G k → w.heap.size ≤ k) ∧ Below w.heap.size w w' := by
  go_enter Tryz.func42, Tryz.ntmps42
  go_wp2_with fail
  go_ret
  exact ⟨w.heap.size, fun k => k = w.heap.size, rfl, ⟨newO_ok, heap_alloc_new _ _, fun k => Iff.rfl⟩, fun k hk => by omega, (Below.refl _ _).alloc (Nat.le_refl _) _⟩
def askB (a : Ak) : Array Value := (askC a).toArray
/-- the world in which Do has laid out the question and two answers -/
structure OdW (w W : World) (r : Nat) (o : Od) (a : Ak) (Y : Array Value) : Prop where
  ask : W.heap[w.heap.size]? = some (.cells (askB a) 37 (0, 0))
  zero : W.heap[w.heap.size + 1]? = some (.cells #[.int .i64 0, .int .i64 0, .string ⟨#[]⟩, .int .i64 0, .slice none 0 0, .int .i64 0, .int .i64 0, .int .i64 0] 33 (0, 0))
  ans : W.heap[w.heap.size + 1 + 1]? = some (.cells Y 33 (0, 0))
  ob : W.heap[r]? = some (.cells #[.int .i64 o.epoch, .int .i64 o.tail, .bool o.knows] 131 (0, 0))
  kp : Kept (fun k => k ≠ r) w W
  lt : r < w.heap.size
theorem od_start {w : World} {r : Nat} {G : Nat → Prop} {o : Od} (h : RO r G w o) (a : Ak) (Y : Array Value) : OdW w (((w.alloc (.cells (askB a) 37)).alloc (.cells #[.int .i64 0, .int .i64 0, .string ⟨#[]⟩, .int .i64 0, .slice none 0 0, .int .i64 0, .int .i64 0, .int .i64 0] 33)).alloc (.cells Y 33)) r o a Y := by
  have hb : Below w.heap.size w (((w.alloc (.cells (askB a) 37)).alloc (.cells #[.int .i64 0, .int .i64 0, .string ⟨#[]⟩, .int .i64 0, .slice none 0 0, .int .i64 0, .int .i64 0, .int .i64 0] 33)).alloc (.cells Y 33)) := (((Below.refl _ _).alloc (Nat.le_refl _) _).alloc (by simp) _).alloc (by simp; omega) _
  obtain ⟨h1, h2⟩ := two_blocks w (askB a) #[.int .i64 0, .int .i64 0, .string ⟨#[]⟩, .int .i64 0, .slice none 0 0, .int .i64 0, .int .i64 0, .int .i64 0] 37 33
  have hb2 := (Below.refl ((w.alloc (.cells (askB a) 37)).alloc (.cells #[.int .i64 0, .int .i64 0, .string ⟨#[]⟩, .int .i64 0, .slice none 0 0, .int .i64 0, .int .i64 0, .int .i64 0] 33)).heap.size ((w.alloc (.cells (askB a) 37)).alloc (.cells #[.int .i64 0, .int .i64 0, .string ⟨#[]⟩, .int .i64 0, .slice none 0 0, .int .i64 0, .int .i64 0, .int .i64 0] 33))).alloc (Nat.le_refl _) (.cells Y 33)
  refine ⟨below_heap hb2 h1, below_heap hb2 h2, ?_, below_heap hb h.2.1, Kept.ofBelow hb _, lt_of_block h.2.1⟩
  have h := heap_alloc_new ((w.alloc (.cells (askB a) 37)).alloc (.cells #[.int .i64 0, .int .i64 0, .string ⟨#[]⟩, .int .i64 0, .slice none 0 0, .int .i64 0, .int .i64 0, .int .i64 0] 33)) (.cells Y 33)
  have e : ((w.alloc (.cells (askB a) 37)).alloc (.cells #[.int .i64 0, .int .i64 0, .string ⟨#[]⟩, .int .i64 0, .slice none 0 0, .int .i64 0, .int .i64 0, .int .i64 0] 33)).heap.size = w.heap.size + 1 + 1 := by simp
  rw [e] at h
  exact h
section
variable {w W : World} {r : Nat} {o : Od} {a : Ak} {Y : Array Value}
theorem OdW.below (h : OdW w W r o a Y) {W2 : World} (hb : Below W.heap.size W W2) : OdW w W2 r o a Y := ⟨below_heap hb h.ask, below_heap hb h.zero, below_heap hb h.ans, below_heap hb h.ob, h.kp.below hb, h.lt⟩
theorem OdW.drewN (h : OdW w W r o a Y) (n : Nat) : OdW w (W.drewN n) r o a Y := h.below (below_drewN (Below.refl _ _) n)
theorem OdW.small (h : OdW w W r o a Y) : w.heap.size < W.heap.size ∧ w.heap.size + 1 < W.heap.size ∧ w.heap.size + 1 + 1 < W.heap.size ∧ r < w.heap.size := ⟨lt_of_block h.ask, lt_of_block h.zero, lt_of_block h.ans, h.lt⟩
theorem OdW.put (h : OdW w W r o a Y) (i : Nat) (v : Value) : OdW w (W.setCell ⟨w.heap.size + 1 + 1, i, none⟩ v) r o a (Y.setIfInBounds i v) := by
  have hlt := h.lt
  have hk : Kept (fun k => k ≠ w.heap.size + 1 + 1) W (W.setCell ⟨w.heap.size + 1 + 1, i, none⟩ v) := (Kept.refl _ W).setCell (p := ⟨w.heap.size + 1 + 1, i, none⟩) (fun h => h rfl) v
  exact ⟨hk.heap (by omega) h.ask, hk.heap (by omega) h.zero, heap_setCell_same W _ i Y _ v h.ans, hk.heap (by omega) h.ob, kept_new h.kp (by omega) v, h.lt⟩
theorem OdW.set0 (h : OdW w W r o a Y) (x : Int) : OdW w (W.setCell ⟨r, 0, none⟩ (.int .i64 x)) r ⟨x, o.tail, o.knows⟩ a Y := by
  have hlt := h.lt
  have hk : Kept (fun k => k ≠ r) W (W.setCell ⟨r, 0, none⟩ (.int .i64 x)) := (Kept.refl _ W).setCell (p := ⟨r, 0, none⟩) (fun h => h rfl) _
  exact ⟨hk.heap (by omega) h.ask, hk.heap (by omega) h.zero, hk.heap (by omega) h.ans, three_set0 h.ob _, h.kp.trans hk, h.lt⟩
theorem OdW.set1 (h : OdW w W r o a Y) (x : Int) : OdW w (W.setCell ⟨r, 1, none⟩ (.int .i64 x)) r ⟨o.epoch, x, o.knows⟩ a Y := by
  have hlt := h.lt
  have hk : Kept (fun k => k ≠ r) W (W.setCell ⟨r, 1, none⟩ (.int .i64 x)) := (Kept.refl _ W).setCell (p := ⟨r, 1, none⟩) (fun h => h rfl) _
  exact ⟨hk.heap (by omega) h.ask, hk.heap (by omega) h.zero, hk.heap (by omega) h.ans, three_set1 h.ob _, h.kp.trans hk, h.lt⟩
theorem OdW.set2 (h : OdW w W r o a Y) (x : Bool) : OdW w (W.setCell ⟨r, 2, none⟩ (.bool x)) r ⟨o.epoch, o.tail, x⟩ a Y := by
  have hlt := h.lt
  have hk : Kept (fun k => k ≠ r) W (W.setCell ⟨r, 2, none⟩ (.bool x)) := (Kept.refl _ W).setCell (p := ⟨r, 2, none⟩) (fun h => h rfl) _
  exact ⟨hk.heap (by omega) h.ask, hk.heap (by omega) h.zero, hk.heap (by omega) h.ans, three_set2 h.ob _, h.kp.trans hk, h.lt⟩
set_option maxHeartbeats 1000000 in
theorem OdW.fin (h : OdW w W r o a Y) (hok : o.Ok) {G : Nat → Prop} (hG : ∀ k, G k ↔ k = r) {v0 v1 v2 v3 v4 v5 v6 v7 : Value} :
    ((((((((W.setCell ⟨w.heap.size + 1, 0, none⟩ v0).setCell ⟨w.heap.size + 1, 1, none⟩ v1).setCell ⟨w.heap.size + 1, 2, none⟩ v2).setCell ⟨w.heap.size + 1, 3, none⟩ v3).setCell ⟨w.heap.size + 1, 4, none⟩ v4).setCell ⟨w.heap.size + 1, 5, none⟩ v5).setCell ⟨w.heap.size + 1, 6, none⟩ v6).setCell ⟨w.heap.size + 1, 7, none⟩ v7).heap[w.heap.size + 1]? = some (.cells #[v0, v1, v2, v3, v4, v5, v6, v7] 33 (0, 0)) ∧ Leaves (RO r) G w ((((((((W.setCell ⟨w.heap.size + 1, 0, none⟩ v0).setCell ⟨w.heap.size + 1, 1, none⟩ v1).setCell ⟨w.heap.size + 1, 2, none⟩ v2).setCell ⟨w.heap.size + 1, 3, none⟩ v3).setCell ⟨w.heap.size + 1, 4, none⟩ v4).setCell ⟨w.heap.size + 1, 5, none⟩ v5).setCell ⟨w.heap.size + 1, 6, none⟩ v6).setCell ⟨w.heap.size + 1, 7, none⟩ v7) o := by
  have hlt := h.lt
  constructor
  · exact (eight_set7 (eight_set6 (eight_set5 (eight_set4 (eight_set3 (eight_set2 (eight_set1 (eight_set0 h.zero _) _) _) _) _) _) _) _)
  · have hk : Kept (fun k => k ≠ w.heap.size + 1) W ((((((((W.setCell ⟨w.heap.size + 1, 0, none⟩ v0).setCell ⟨w.heap.size + 1, 1, none⟩ v1).setCell ⟨w.heap.size + 1, 2, none⟩ v2).setCell ⟨w.heap.size + 1, 3, none⟩ v3).setCell ⟨w.heap.size + 1, 4, none⟩ v4).setCell ⟨w.heap.size + 1, 5, none⟩ v5).setCell ⟨w.heap.size + 1, 6, none⟩ v6).setCell ⟨w.heap.size + 1, 7, none⟩ v7) := (((((((((Kept.refl _ W).setCell (p := ⟨w.heap.size + 1, 0, none⟩) (fun h => h rfl) _).setCell (p := ⟨w.heap.size + 1, 1, none⟩) (fun h => h rfl) _).setCell (p := ⟨w.heap.size + 1, 2, none⟩) (fun h => h rfl) _).setCell (p := ⟨w.heap.size + 1, 3, none⟩) (fun h => h rfl) _).setCell (p := ⟨w.heap.size + 1, 4, none⟩) (fun h => h rfl) _).setCell (p := ⟨w.heap.size + 1, 5, none⟩) (fun h => h rfl) _).setCell (p := ⟨w.heap.size + 1, 6, none⟩) (fun h => h rfl) _).setCell (p := ⟨w.heap.size + 1, 7, none⟩) (fun h => h rfl) _)
    exact ⟨G, ⟨hok, hk.heap (by omega) h.ob, hG⟩, (kept_new (kept_new (kept_new (kept_new (kept_new (kept_new (kept_new (kept_new h.kp (by omega) _) (by omega) _) (by omega) _) (by omega) _) (by omega) _) (by omega) _) (by omega) _) (by omega) _).mono (fun k hk e => hk ((hG k).2 e)), fun k hk => .inl hk⟩
end
end Go.Proofs.YtchhmfdalghgcaaGreat
namespace Go.Proofs.YtchhmfdalghgcaaGreat
set_option linter.unusedVariables false
open Go.RowKit
set_option maxRecDepth 20000
/-- the call began in w; it is in W now -/
structure BoxV {α : Type} (ta tz : TypeId) (A Z : Array Value) (T : (Nat → Prop) → World → α → Prop) (w W : World) (G : Nat → Prop) (s : α) : Prop where
  ask : W.heap[w.heap.size]? = some (.cells A ta (0, 0))
  ans : W.heap[w.heap.size + 1]? = some (.cells Z tz (0, 0))
  th : ∃ H : Nat → Prop, T H W s ∧ ∀ k, H k → G k ∨ w.heap.size + 1 < k
  kp : Kept (fun k => ¬ G k) w W
  lt : ∀ k, G k → k < w.heap.size
section
variable {α : Type} {ta tz : TypeId} {A Z : Array Value} {T : (Nat → Prop) → World → α → Prop} {w W : World} {G : Nat → Prop} {s s' : α}
theorem boxv_start (hT : Thing T) (h : T G w s) (ta tz : TypeId) (A Z : Array Value) : BoxV ta tz A Z T w ((w.alloc (.cells A ta)).alloc (.cells Z tz)) G s := by
  have hb : Below w.heap.size w ((w.alloc (.cells A ta)).alloc (.cells Z tz)) := ((Below.refl _ _).alloc (Nat.le_refl _) _).alloc (by simp) _
  obtain ⟨h1, h2⟩ := two_blocks w A Z ta tz
  exact ⟨h1, h2, ⟨G, hT.keep h (Kept.ofBelow hb (fun _ => True)) (fun _ _ => trivial), fun k hk => .inl hk⟩, Kept.ofBelow hb _, fun k hk => hT.lt h k hk⟩
theorem BoxV.below (hT : Thing T) (h : BoxV ta tz A Z T w W G s) {W2 : World} (hb : Below W.heap.size W W2) : BoxV ta tz A Z T w W2 G s := by
  obtain ⟨H, h1, h2⟩ := h.th
  exact ⟨below_heap hb h.ask, below_heap hb h.ans, ⟨H, hT.keep h1 (Kept.ofBelow hb (fun _ => True)) (fun _ _ => trivial), h2⟩, h.kp.below hb, h.lt⟩
theorem BoxV.drewN (hT : Thing T) (h : BoxV ta tz A Z T w W G s) (n : Nat) : BoxV ta tz A Z T w (W.drewN n) G s := h.below hT (below_drewN (Below.refl _ _) n)
theorem BoxV.small (h : BoxV ta tz A Z T w W G s) : w.heap.size < W.heap.size ∧ w.heap.size + 1 < W.heap.size := ⟨lt_of_block h.ask, lt_of_block h.ans⟩
theorem BoxV.leaves (h : BoxV ta tz A Z T w W G s) : Leaves T G w W s := by
  obtain ⟨H, h1, h2⟩ := h.th
  exact ⟨H, h1, h.kp, fun k hk => (h2 k hk).imp id (fun h => by omega)⟩
/-- a call, or a store, on the thing; what it leaves may be told as another thing -/
theorem BoxV.use2 (h : BoxV ta tz A Z T w W G s) : ∃ H : Nat → Prop, T H W s ∧ (∀ W2, Kept (fun k => ¬ H k) W W2 → Kept (fun k => ¬ G k) w W2) ∧ ∀ {β : Type} (U : (Nat → Prop) → World → β → Prop) W2 (s' : β), Leaves U H W W2 s' → BoxV ta tz A Z U w W2 G s' := by
  obtain ⟨H, h1, h2⟩ := h.th
  obtain ⟨s1, s2⟩ := h.small
  have off : ∀ k, k < W.heap.size → ¬ G k → k ≤ w.heap.size + 1 → ¬ H k := fun k _ hg hk hf => by
    rcases h2 k hf with h3 | h3
    · exact hg h3
    · omega
  have ng : ∀ k, w.heap.size ≤ k → ¬ G k := fun k hk hg => by have := h.lt k hg; omega
  have kk : ∀ W2, Kept (fun k => ¬ H k) W W2 → Kept (fun k => ¬ G k) w W2 := fun W2 r2 => by
    have hk := h.kp
    refine ⟨r2.os.trans hk.os, r2.tape.trans hk.tape, r2.output.trans hk.output, Nat.le_trans hk.size r2.size, fun k hg hkl => ?_⟩
    rw [r2.block k (off k (Nat.lt_of_lt_of_le hkl hk.size) hg (by omega)) (Nat.lt_of_lt_of_le hkl hk.size)]
    exact hk.block k hg hkl
  refine ⟨H, h1, kk, fun U W2 s' hl => ?_⟩
  obtain ⟨H', r1, r2, r3⟩ := hl
  refine ⟨r2.heap (off _ s1 (ng _ (by omega)) (by omega)) h.ask, r2.heap (off _ s2 (ng _ (by omega)) (by omega)) h.ans, ⟨H', r1, fun k hk => ?_⟩, kk W2 r2, h.lt⟩
  rcases r3 k hk with h3 | h3
  · exact h2 k h3
  · exact .inr (by omega)
/-- a call, or a store, on the thing -/
theorem BoxV.use (h : BoxV ta tz A Z T w W G s) : ∃ H : Nat → Prop, T H W s ∧ ∀ W2 s', Leaves T H W W2 s' → BoxV ta tz A Z T w W2 G s' := by
  obtain ⟨H, h1, _, h3⟩ := h.use2
  exact ⟨H, h1, fun W2 s' hl => h3 T W2 s' hl⟩
/-- the result is another then -/
theorem BoxV.fin (hT : Thing T) (h : BoxV ta tz A Z T w W G s) {W2 : World} (hk : Kept (fun k => k ≠ w.heap.size + 1) W W2) : Leaves T G w W2 s := by
  obtain ⟨H, h1, h2⟩ := h.th
  have hw := h.small
  refine ⟨H, hT.keep h1 hk (fun k hk e => ?_), ?_, fun k hk => (h2 k hk).imp id (fun h => by omega)⟩
  · rcases h2 k hk with h3 | h3
    · have := h.lt k h3; omega
    · omega
  · have hp := h.kp
    refine ⟨hk.os.trans hp.os, hk.tape.trans hp.tape, hk.output.trans hp.output, Nat.le_trans hp.size hk.size, fun k hg hkl => ?_⟩
    have := hp.size
    rw [hk.block k (by omega) (by omega)]
    exact hp.block k hg hkl
end
end Go.Proofs.YtchhmfdalghgcaaGreat
