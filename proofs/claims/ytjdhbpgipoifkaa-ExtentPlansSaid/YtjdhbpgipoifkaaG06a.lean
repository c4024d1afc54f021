/- Questions and answers that stand in memory or are handed over by value: what their fields hold. No conditions. -/
import Derived.Test.YtjdhbpgipoifkaaG04b
import Derived.Test.YtjdhbpgipoifkaaG05a
set_option linter.unusedVariables false
namespace Go.Proofs.Ytjdhbpgipoifkaa
set_option linter.unusedVariables false
open Go.ChangeShapes Go.WideShapes Go.ChangeAt Go.RowKit
set_option maxRecDepth 20000
/-- a question; where its projection's chains lie -/
structure Ak where
  kind : Int
  unit : Int
  epoch : Int
  page : Int
  size : Int
  n : Int
  data : ByteArray
  pe : Int
  L : List (List Int)
  ao : Option Addr
  cap : Nat
/-- its nine cells -/
def askC (a : Ak) : List Value := [.int .i64 a.kind, .int .i64 a.unit, .int .i64 a.epoch, .int .i64 a.page, .int .i64 a.size, .int .i64 a.n, .string a.data, .int .i64 a.pe, .slice a.ao a.L.length a.cap]
def askV (a : Ak) : Value := .agg (askC a).toArray
structure AkOk (a : Ak) : Prop where
  kind : i64w a.kind
  unit : i64w a.unit
  epoch : i64w a.epoch
  page : i64w a.page
  size : i64w a.size
  n : i64w a.n
  data : a.data.size ≤ maxLen
  pe : i64w a.pe
  len : a.L.length ≤ maxLen
  each : ∀ c ∈ a.L, c.length ≤ maxLen
  nil : a.ao = none → a.cap = 0
  room : a.L.length ≤ a.cap
/-- a question that was told lies there -/
def AkIn (w : World) (a : Ak) : Prop := AkOk a ∧ CL w a.ao a.L
theorem AkIn.below {w w' : World} {a : Ak} (h : AkIn w a) (hb : Below w.heap.size w w') : AkIn w' a := ⟨h.1, h.2.below hb⟩
/-- an answer; its eight cells, the chains of its projection at ao -/
structure An where
  code : Int
  n : Int
  data : ByteArray
  pe : Int
  L : List (List Int)
  mark : Int
  size : Int
  epoch : Int
def ansC (x : An) (ao : Option Addr) (cap : Nat) : List Value := [.int .i64 x.code, .int .i64 x.n, .string x.data, .int .i64 x.pe, .slice ao x.L.length cap, .int .i64 x.mark, .int .i64 x.size, .int .i64 x.epoch]
def ansV (x : An) (ao : Option Addr) (cap : Nat) : Value := .agg (ansC x ao cap).toArray
/-- an answer that tells no projection, nor an image -/
def anP (code n : Int) (data : ByteArray) (epoch : Int) : An := ⟨code, n, data, 0, [], 0, 0, epoch⟩
section
variable {H : Type} {enc : TypeId × Value → H} {P : Program} {w : World} {base : Nat} {spare : Nat → Bool} {held : Bool}
/-- a projection's two cells -/
theorem proj_cs {n : Nat} {cs : List Value} {y : DataW H × List MemPlace} {t ti tc te : TypeId} {g0 g1 : Field} (ht : P.underlying t = some (.struct #[g0, g1])) (hc : P.cellsOf t = 2)
    (h0 : (g0.offset, g0.type) = (0, ti)) (h1 : (g1.offset, g1.type) = (1, tc)) (ci : P.cellsOf ti = 1) (cc : P.cellsOf tc = 1)
    (ui : P.underlying ti = some (.int .i64)) (uc : P.underlying tc = some (.slice te)) (ue : P.underlying te = some (.slice ti)) (ce : P.cellsOf te = 1) (hl : cs.length = 2)
    (hf : DataW.trod enc P w base spare held n t cs = some y) :
    ∃ ep ao cap L, cs = [.int .i64 ep, .slice ao L.length cap] ∧ i64w ep ∧ CL w ao L ∧ (ao = none → cap = 0) ∧ L.length ≤ cap ∧ L.length ≤ maxLen ∧ ∀ c ∈ L, c.length ≤ maxLen := by
  obtain ⟨xs, n, _, _, _, hxl, hg⟩ := DataW.trod_struct ht hf
  have hxl2 : xs.length = 2 := hxl
  simp only [Prod.mk.injEq] at h0 h1
  have a0 := hg 0 g0 rfl
  have a1 := hg 1 g1 rfl
  rw [h0.1, h0.2, ci, List.getElem?_eq_getElem (by omega)] at a0
  rw [h1.1, h1.2, cc, List.getElem?_eq_getElem (by omega)] at a1
  obtain ⟨ep, e0, _, wf⟩ := DataW.trod_int ui a0
  obtain ⟨ao, cap, L, e1, h2, h3, h4, h5, h6⟩ := chains_cs uc ue ui ce ci a1
  refine ⟨ep, ao, cap, L, ?_, wf, h2, h3, h4, h5, fun c hcm => by obtain ⟨i, hi, rfl⟩ := List.getElem_of_mem hcm; exact h6 i hi⟩
  match cs, hl with
  | [x, y], _ =>
    simp at e0 e1
    rw [e0, e1]
/-- the types of a question and of what it is made of -/
structure AskT (P : Program) (t ti ts tp tc te : TypeId) : Prop where
  ask : ∃ fs : Array Field, P.underlying t = some (.struct fs) ∧ fs.size = 8 ∧ fs.map (fun (f : Field) => (f.offset, f.type)) = #[(0, ti), (1, ti), (2, ti), (3, ti), (4, ti), (5, ti), (6, ts), (7, tp)]
  cells : P.cellsOf t = 9
  proj : ∃ g0 g1 : Field, P.underlying tp = some (.struct #[g0, g1]) ∧ (g0.offset, g0.type) = (0, ti) ∧ (g1.offset, g1.type) = (1, tc)
  cp : P.cellsOf tp = 2
  ci : P.cellsOf ti = 1
  cs : P.cellsOf ts = 1
  cc : P.cellsOf tc = 1
  ce : P.cellsOf te = 1
  ui : P.underlying ti = some (.int .i64)
  us : P.underlying ts = some .string
  uc : P.underlying tc = some (.slice te)
  ue : P.underlying te = some (.slice ti)
theorem ask_cs {n : Nat} {cs : List Value} {y : DataW H × List MemPlace} {t ti ts tp tc te : TypeId} (T : AskT P t ti ts tp tc te) (hl : cs.length = 9) (hf : DataW.trod enc P w base spare held n t cs = some y) : ∃ a : Ak, cs = askC a ∧ AkIn w a := by
  obtain ⟨fs, ht, hz, hfs⟩ := T.ask
  obtain ⟨g0, g1, hp, q0, q1⟩ := T.proj
  obtain ⟨xs, m, _, _, _, hxl, hg⟩ := DataW.trod_struct ht hf
  rw [hz] at hxl
  have at' : ∀ i : Nat, fs[i]?.map (fun (f : Field) => (f.offset, f.type)) = (#[(0, ti), (1, ti), (2, ti), (3, ti), (4, ti), (5, ti), (6, ts), (7, tp)] : Array (Nat × TypeId))[i]? := by
    intro i
    rw [← hfs, Array.getElem?_map]
  obtain ⟨y0, e0, w0⟩ := fld_int (i := 0) (t0 := ti) hg (at' 0) (by omega) T.ci T.ui
  obtain ⟨y1, e1, w1⟩ := fld_int (i := 1) (t0 := ti) hg (at' 1) (by omega) T.ci T.ui
  obtain ⟨y2, e2, w2⟩ := fld_int (i := 2) (t0 := ti) hg (at' 2) (by omega) T.ci T.ui
  obtain ⟨y3, e3, w3⟩ := fld_int (i := 3) (t0 := ti) hg (at' 3) (by omega) T.ci T.ui
  obtain ⟨y4, e4, w4⟩ := fld_int (i := 4) (t0 := ti) hg (at' 4) (by omega) T.ci T.ui
  obtain ⟨y5, e5, w5⟩ := fld_int (i := 5) (t0 := ti) hg (at' 5) (by omega) T.ci T.ui
  obtain ⟨y6, e6, w6⟩ := fld_text (i := 6) (t0 := ts) hg (at' 6) (by omega) T.cs T.us
  obtain ⟨f, h1, h2⟩ := Option.map_eq_some_iff.1 (at' 7)
  obtain ⟨h3, h4⟩ := Prod.mk.inj h2
  have g := hg 7 f h1
  rw [h3, h4, T.cp, List.getElem?_eq_getElem (by omega)] at g
  obtain ⟨pe, ao, cap, L, e7, w7, hC, k1, k2, k3, k4⟩ := proj_cs hp T.cp q0 q1 T.ci T.cc T.ui T.uc T.ue T.ce (by rw [List.length_take, List.length_drop]; omega) g
  refine ⟨⟨y0, y1, y2, y3, y4, y5, y6, pe, L, ao, cap⟩, ?_, ⟨w0, w1, w2, w3, w4, w5, w6, w7, k3, k4, k1, k2⟩, hC⟩
  match cs, hl with
  | [x0, x1, x2, x3, x4, x5, x6, x7, x8], _ =>
    simp at e0 e1 e2 e3 e4 e5 e6 e7
    obtain ⟨e7, e8⟩ := e7
    subst e0 e1 e2 e3 e4 e5 e6 e7 e8
    rfl
/-- a question that was handed over by value -/
theorem open_ask {r : Reach} {b0 : Nat} {t ti ts tp tc te : TypeId} {v : Value} {d : DataW H} {p : List MemPlace} (T : AskT P t ti ts tp tc te) (hv : Value.okWide P w r b0 t v) (h : DataW.Trod enc P w base spare held t v d p) : ∃ a : Ak, v = askV a ∧ AkIn w a := by
  obtain ⟨fs, ht, _⟩ := T.ask
  obtain ⟨A, rfl, hsz⟩ := okWide_rec ht hv
  obtain ⟨fuel, hf⟩ := h
  rw [T.cells] at hsz
  simp only [Value.cells] at hf
  obtain ⟨a, e, h2⟩ := ask_cs T (by simpa using hsz) hf
  exact ⟨a, by unfold askV; rw [← e], h2⟩
end
theorem two_blocks (w : World) (x y : Array Value) (t u : TypeId) : ((w.alloc (.cells x t)).alloc (.cells y u)).heap[w.heap.size]? = some (.cells x t (0, 0)) ∧ ((w.alloc (.cells x t)).alloc (.cells y u)).heap[w.heap.size + 1]? = some (.cells y u (0, 0)) := by
  refine ⟨below_heap ((Below.refl _ _).alloc (Nat.le_refl _) _) (heap_alloc_new _ _), ?_⟩
  have h := heap_alloc_new (w.alloc (.cells x t)) (.cells y u)
  have e : (w.alloc (.cells x t)).heap.size = w.heap.size + 1 := by simp
  rw [e] at h
  exact h
/-- a question's block: what its nine cells hold -/
theorem ask_cells {w : World} {b : Nat} {a : Ak} {t : TypeId} (h : w.heap[b]? = some (.cells (askC a).toArray t (0, 0))) :
    w.cell? ⟨b, 0, none⟩ = some (.int .i64 a.kind) ∧ w.cell? ⟨b, 1, none⟩ = some (.int .i64 a.unit) ∧ w.cell? ⟨b, 2, none⟩ = some (.int .i64 a.epoch) ∧ w.cell? ⟨b, 3, none⟩ = some (.int .i64 a.page) ∧ w.cell? ⟨b, 4, none⟩ = some (.int .i64 a.size) ∧ w.cell? ⟨b, 5, none⟩ = some (.int .i64 a.n) ∧ w.cell? ⟨b, 6, none⟩ = some (.string a.data) ∧ w.cell? ⟨b, 7, none⟩ = some (.int .i64 a.pe) ∧ w.cell? ⟨b, 8, none⟩ = some (.slice a.ao a.L.length a.cap) :=
  ⟨cell_of h 0, cell_of h 1, cell_of h 2, cell_of h 3, cell_of h 4, cell_of h 5, cell_of h 6, cell_of h 7, cell_of h 8⟩
end Go.Proofs.Ytjdhbpgipoifkaa
