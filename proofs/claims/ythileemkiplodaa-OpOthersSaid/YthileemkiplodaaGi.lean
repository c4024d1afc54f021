/- A slice of texts that was handed over: what its cells hold; a copy of it that a call makes for itself. No conditions. A record that was handed over by value: what its fields hold, and the row of its moves. No conditions. Plain facts on records' texts: what is packed of a record. No conditions. -/
import Derived.Test.YthileemkiplodaaGh
import Derived.Test.YthileemkiplodaaJFields
import Derived.Laws.AppendOwn
import Derived.Laws.AppendOwnNone
import Derived.Test.YthileemkiplodaaJOpB
import Derived.Test.YthileemkiplodaaGf
import Derived.Test.YthileemkiplodaaGd
set_option linter.unusedVariables false
namespace Go.Proofs.Ythileemkiplodaa
open Go.ChangeShapes Go.WideShapes Go.ChangeAt Go.RowKit

/-- the row at ao holds the texts L, and a slice that is nil has no room -/
def SLI (w : World) (ao : Option Addr) (cap : Nat) (L : List ByteArray) : Prop := SL w ao L ∧ (ao = none → cap = 0)
section
variable {H : Type} {enc : TypeId × Value → H} {P : Program} {w : World} {base : Nat} {spare : Nat → Bool} {held : Bool}
theorem open_strs {r : Reach} {b0 : Nat} {t e : TypeId} {v : Value} {d : DataW H} {p : List MemPlace} (ht : P.underlying t = some (.slice e)) (he : P.underlying e = some .string) (hc : P.cellsOf e = 1)
    (hv : Value.okWide P w r b0 t v) (h : DataW.Trod enc P w base spare held t v d p) :
    ∃ ao cap L, v = .slice ao L.length cap ∧ L.length ≤ maxLen ∧ SLI w ao cap L := by
  obtain ⟨a0, n0, k0, rfl⟩ := okWide_slice ht hv
  obtain ⟨fuel, hf⟩ := h
  simp only [Value.cells] at hf
  rcases Deep.open_slice ht hf with ⟨h0, _⟩ | ⟨a, len, cap, m, n, D, Pl, hcs, _, hl, hm, hmm, _, hi⟩
  · simp at h0
    obtain ⟨rfl, rfl, rfl⟩ := h0
    exact ⟨none, 0, [], rfl, Nat.zero_le _, fun i hi => absurd hi (Nat.not_lt_zero i), fun _ => rfl⟩
  simp at hcs
  obtain ⟨rfl, rfl, rfl⟩ := hcs
  have hlm : n0 ≤ m := by rw [hmm]; split <;> omega
  rw [hc] at hi
  have each : ∀ i, i < n0 → ∃ x : ByteArray, w.cell? (a.add (i * 1)) = some (.string x) := by
    intro i hin
    obtain ⟨cs, hcl, htr⟩ := hi i (by omega)
    obtain ⟨_, hlen, hat⟩ := World.cells?_some hcl
    match cs, hlen with
    | [x0], _ =>
      obtain ⟨q0, e0, _, wf0⟩ := DataW.trod_string he htr
      simp at e0
      subst e0
      have a0 := hat 0 (by omega)
      rw [Deep.add_add] at a0
      exact ⟨q0, a0⟩
  obtain ⟨F, hF⟩ := Deep.choose_lt each
  refine ⟨some a, k0, (List.range n0).map F, by simp, by simp; omega, fun i hi => ?_, fun e => by cases e⟩
  have hin : i < n0 := by simpa using hi
  rw [List.getElem_map, List.getElem_range]
  have b0 := hF i hin
  have z0 := hF 0 (by omega)
  have hs := cell_spot z0
  obtain ⟨bk, off, sp⟩ := a
  rw [show ((⟨bk, off, sp⟩ : Addr).add (0 * 1)) = ⟨bk, off, sp⟩ from rfl] at hs
  simp only at hs
  subst hs
  rw [addr_plus, Nat.mul_one] at b0
  exact ⟨bk, off, rfl, b0⟩
end
theorem SL.news {w : World} {ad : Addr} {L : List ByteArray} (h : SL w (some ad) L) : ∀ (j : Nat) (u : Value), (L.map Value.string)[j]? = some u → w.cell? (ad.add j) = some u := by
  intro j u hj
  rw [List.getElem?_map] at hj
  by_cases hl : j < L.length
  · rw [List.getElem?_eq_getElem hl] at hj
    cases hj
    obtain ⟨bk2, off2, h1, h2⟩ := h j hl
    cases h1
    rw [addr_plus]
    exact h2
  · rw [List.getElem?_eq_none (by omega)] at hj
    cases hj
theorem strs_one (L : List ByteArray) : ∀ u ∈ L.map Value.string, u.oneCell' = true := by
  intro u hu
  obtain ⟨s, _, rfl⟩ := List.mem_map.1 hu
  rfl
/-- append([]string{}, l...): the copy of a list that a call makes for itself -/
theorem wpList_copy_strs {ops : Array Oper} {rest : List Oper} {o : Oper} {a : Act} {w : World} {Q : Exit → Act → World → Prop} (hgd : o.guard = none) (s x : Operand)
    (ho : o.op = .call { callee := .builtin .append, args := #[s, x], argTypes := #[87, 87] }) (g : Nat) (hs : a.eval s = .slice (some ⟨g, 0, none⟩) 0 0) (hg : w.heap[g]? = some (.cells #[] 9 (0, 0)))
    (ao : Option Addr) (cap : Nat) (L : List ByteArray) (hx : a.eval x = .slice ao L.length cap) (hL : SLI w ao cap L) (hl : L.length ≤ 1000000) (B : Nat) (w0 : World) (hB : B ≤ g) (hb : Below B w0 w)
    (h : ∀ ao' cap' w', SL w' ao' L → Below B w0 w' → wpList Try.prog ops Q rest (a.put o.dst (.slice ao' L.length cap')) w') : wpList Try.prog ops Q (o :: rest) a w := by
  obtain ⟨i0, hi, hz0, hz1, hz2⟩ := info_parts str_info
  have hlt := lt_of_block hg
  have hown : w.ownsRow B 9 1 (.slice (some ⟨g, 0, none⟩) 0 0) 0 [] := ⟨by simp, .inr ⟨g, 0, #[], rfl, hB, hg, Nat.le_refl _, Nat.zero_le _, by simp, by simp⟩⟩
  cases ao with
  | none =>
    have hc := hL.2 rfl
    have hn : L = [] := by
      cases L with
      | nil => rfl
      | cons y l => obtain ⟨_, _, h1, _⟩ := hL.1 0 (by simp); cases h1
    subst hc hn
    exact wpList_append_own_none hgd s x 87 ho B 9 i0 1 Try.underlying87 hi _ 0 [] hs hown hx (h _ _ _ (SL.nil _ _) hb)
  | some ad =>
    refine wpList_append_own w hgd s x 87 ho B 9 i0 (.string ⟨#[]⟩) 1 16 Try.underlying87 hi hz0 hz1 hz2 rfl (by decide) _ 0 [] hs hown ad L.length cap (L.map Value.string) hx (by simp) hL.1.news (strs_one L) (by unfold maxLen; omega) (by omega) (Nat.le_trans hB (Nat.le_of_lt hlt)) ?_
    intro v' w' hown' hgrow _
    rw [List.nil_append] at hown'
    obtain ⟨ao', cap', rfl, hsl, _⟩ := SL.ofOwn hown' (by omega)
    exact h ao' cap' w' hsl (hb.grown hgrow (Nat.le_trans hB (Nat.le_of_lt hlt)) (fun k hk => by cases hk; exact hB))
end Go.Proofs.Ythileemkiplodaa
namespace Go.Proofs.Ythileemkiplodaa
open Go.ChangeShapes Go.WideShapes Go.ChangeAt Go.RowKit
set_option maxRecDepth 20000

def i64w (x : Int) : Prop := (Lit.int .i64 x).wf = true
theorem i64w.of {x : Int} (h : i64w x) : -9223372036854775808 ≤ x ∧ x ≤ 9223372036854775807 := i64_of_wf h
instance : Inhabited Mv := ⟨⟨0, 0, 0, 0⟩⟩
def mvOk (m : Mv) : Prop := i64w m.addr ∧ i64w m.src ∧ i64w m.len ∧ i64w m.dst
/-- the numbers are of 64 bits, the texts no longer than any -/
structure RecOk (o : Rec) : Prop where
  client : i64w o.client
  seq : i64w o.seq
  kind : i64w o.kind
  path : o.path.size ≤ maxLen
  dest : o.dest.size ≤ maxLen
  size : i64w o.size
  handle : i64w o.handle
  off : i64w o.off
  data : o.data.size ≤ maxLen
  tick : i64w o.tick
  ino : i64w o.ino
  len : o.moves.length ≤ maxLen
  moves : ∀ i (h : i < o.moves.length), mvOk o.moves[i]
section
variable {H : Type} {enc : TypeId × Value → H} {P : Program} {w : World} {base : Nat} {spare : Nat → Bool} {held : Bool}
theorem okWide_rec {r : Reach} {b0 : Nat} {t : TypeId} {fs : Array Field} {v : Value} (ht : P.underlying t = some (.struct fs)) (h : Value.okWide P w r b0 t v) : ∃ cs, v = .agg cs ∧ cs.size = P.cellsOf t := by
  simp only [Value.okWide, ht] at h
  obtain ⟨cs, h1, h2, _⟩ := h
  exact ⟨cs, h1, h2⟩
theorem one_at {cs : List Value} {i : Nat} {x : Value} (e : (cs.drop i).take 1 = [x]) : cs[i]? = some x := by
  have h2 : ((cs.drop i).take 1)[0]? = some x := by rw [e]; rfl
  simpa [List.getElem?_take, List.getElem?_drop] using h2
theorem fld_int {n i : Nat} {fs : Array Field} {cs : List Value} {xs : List (DataW H × List MemPlace)} {t0 : TypeId} (hg : ∀ (i : Nat) (f : Field), fs[i]? = some f → DataW.trod enc P w base spare held n f.type ((cs.drop f.offset).take (P.cellsOf f.type)) = xs[i]?)
    (hf : fs[i]?.map (fun f => (f.offset, f.type)) = some (i, t0)) (hx : i < xs.length) (hc : P.cellsOf t0 = 1) (hu : P.underlying t0 = some (.int .i64)) : ∃ y, cs[i]? = some (.int .i64 y) ∧ i64w y := by
  obtain ⟨f, h1, h2⟩ := Option.map_eq_some_iff.1 hf
  obtain ⟨h3, h4⟩ := Prod.mk.inj h2
  have g := hg i f h1
  rw [h3, h4, hc, List.getElem?_eq_getElem hx] at g
  obtain ⟨y, e, _, wf⟩ := DataW.trod_int hu g
  exact ⟨y, one_at e, wf⟩
theorem fld_text {n i : Nat} {fs : Array Field} {cs : List Value} {xs : List (DataW H × List MemPlace)} {t0 : TypeId} (hg : ∀ (i : Nat) (f : Field), fs[i]? = some f → DataW.trod enc P w base spare held n f.type ((cs.drop f.offset).take (P.cellsOf f.type)) = xs[i]?)
    (hf : fs[i]?.map (fun f => (f.offset, f.type)) = some (i, t0)) (hx : i < xs.length) (hc : P.cellsOf t0 = 1) (hu : P.underlying t0 = some .string) : ∃ y : ByteArray, cs[i]? = some (.string y) ∧ y.size ≤ maxLen := by
  obtain ⟨f, h1, h2⟩ := Option.map_eq_some_iff.1 hf
  obtain ⟨h3, h4⟩ := Prod.mk.inj h2
  have g := hg i f h1
  rw [h3, h4, hc, List.getElem?_eq_getElem hx] at g
  obtain ⟨y, e, _, wf⟩ := DataW.trod_string hu g
  exact ⟨y, one_at e, wf⟩
theorem open_moves {n : Nat} {cs : List Value} {y : DataW H × List MemPlace} {t e t0 : TypeId} {f0 f1 f2 f3 : Field} (ht : P.underlying t = some (.slice e)) (he : P.underlying e = some (.struct #[f0, f1, f2, f3])) (hc : P.cellsOf e = 4)
    (h0 : (f0.offset, f0.type) = (0, t0)) (h1 : (f1.offset, f1.type) = (1, t0)) (h2 : (f2.offset, f2.type) = (2, t0)) (h3 : (f3.offset, f3.type) = (3, t0)) (c0 : P.cellsOf t0 = 1) (u0 : P.underlying t0 = some (.int .i64))
    (hf : DataW.trod enc P w base spare held n t cs = some y) :
    ∃ ao cap L, cs = [.slice ao L.length cap] ∧ L.length ≤ maxLen ∧ VLI w ao cap L ∧ ∀ i (h : i < L.length), mvOk L[i] := by
  rcases Deep.open_slice ht hf with ⟨h0, _⟩ | ⟨a, len, cap, m, n, D, Pl, hcs, _, hl, hm, hmm, _, hi⟩
  · exact ⟨none, 0, [], h0, Nat.zero_le _, ⟨VL.nil _ _, fun _ => rfl⟩, fun i hi => absurd hi (Nat.not_lt_zero i)⟩
  subst hcs
  have hlm : len ≤ m := by rw [hmm]; split <;> omega
  rw [hc] at hi
  have each : ∀ i, i < len → ∃ f : Mv, (w.cell? (a.add (i * 4)) = some (.int .i64 f.addr) ∧ w.cell? (a.add (i * 4 + 1)) = some (.int .i64 f.src) ∧ w.cell? (a.add (i * 4 + 2)) = some (.int .i64 f.len) ∧ w.cell? (a.add (i * 4 + 3)) = some (.int .i64 f.dst)) ∧ mvOk f := by
    intro i hin
    obtain ⟨cs, hcl, htr⟩ := hi i (by omega)
    obtain ⟨_, hlen, hat⟩ := World.cells?_some hcl
    obtain ⟨xs, n', _, _, _, hxl, hg⟩ := DataW.trod_struct he htr
    have hx4 : xs.length = 4 := hxl
    obtain ⟨q0, e0, wf0⟩ := fld_int (i := 0) hg (congrArg some h0) (by omega) c0 u0
    obtain ⟨q1, e1, wf1⟩ := fld_int (i := 1) hg (congrArg some h1) (by omega) c0 u0
    obtain ⟨q2, e2, wf2⟩ := fld_int (i := 2) hg (congrArg some h2) (by omega) c0 u0
    obtain ⟨q3, e3, wf3⟩ := fld_int (i := 3) hg (congrArg some h3) (by omega) c0 u0
    match cs, hlen with
    | [x0, x1, x2, x3], _ =>
      simp at e0 e1 e2 e3
      subst e0 e1 e2 e3
      have a0 := hat 0 (by omega)
      have a1 := hat 1 (by omega)
      have a2 := hat 2 (by omega)
      have a3 := hat 3 (by omega)
      rw [Deep.add_add] at a0 a1 a2 a3
      exact ⟨⟨q0, q1, q2, q3⟩, ⟨a0, a1, a2, a3⟩, wf0, wf1, wf2, wf3⟩
  obtain ⟨F, hF⟩ := Deep.choose_lt each
  refine ⟨some a, cap, (List.range len).map F, by simp, by simp; omega, ⟨fun i hi => ?_, fun e => by cases e⟩, fun i hi => ?_⟩
  · have hin : i < len := by simpa using hi
    rw [List.getElem_map, List.getElem_range]
    obtain ⟨⟨b0, b1, b2, b3⟩, ok⟩ := hF i hin
    obtain ⟨⟨z0, _, _, _⟩, _⟩ := hF 0 (by omega)
    have hs := cell_spot z0
    obtain ⟨bk, off, sp⟩ := a
    rw [show ((⟨bk, off, sp⟩ : Addr).add (0 * 4)) = ⟨bk, off, sp⟩ from rfl] at hs
    simp only at hs
    subst hs
    rw [addr_plus] at b0 b1 b2 b3
    rw [← Nat.add_assoc] at b1 b2 b3
    exact ⟨bk, off, rfl, b0, b1, b2, b3⟩
  · have hin : i < len := by simpa using hi
    rw [List.getElem_map, List.getElem_range]
    exact (hF i hin).2
theorem open_rec {r : Reach} {b0 : Nat} {t ti ts tk tm te : TypeId} {fs : Array Field} {g0 g1 g2 g3 : Field} {v : Value} {d : DataW H} {p : List MemPlace} (ht : P.underlying t = some (.struct fs)) (hc : P.cellsOf t = 12) (hz : fs.size = 12)
    (hfs : fs.map (fun (f : Field) => (f.offset, f.type)) = #[(0, ti), (1, ti), (2, ti), (3, ts), (4, ts), (5, ti), (6, ti), (7, ti), (8, ts), (9, tk), (10, ti), (11, tm)])
    (ci : P.cellsOf ti = 1) (cs : P.cellsOf ts = 1) (ck : P.cellsOf tk = 1) (cm : P.cellsOf tm = 1)
    (ui : P.underlying ti = some (.int .i64)) (us : P.underlying ts = some .string) (uk : P.underlying tk = some (.int .i64)) (um : P.underlying tm = some (.slice te)) (ue : P.underlying te = some (.struct #[g0, g1, g2, g3])) (ce : P.cellsOf te = 4)
    (h0 : (g0.offset, g0.type) = (0, ti)) (h1 : (g1.offset, g1.type) = (1, ti)) (h2 : (g2.offset, g2.type) = (2, ti)) (h3 : (g3.offset, g3.type) = (3, ti))
    (hv : Value.okWide P w r b0 t v) (h : DataW.Trod enc P w base spare held t v d p) :
    ∃ o ao cap, v = .agg (recA o (.slice ao o.moves.length cap)) ∧ RecOk o ∧ VLI w ao cap o.moves := by
  obtain ⟨A, rfl, hsz⟩ := okWide_rec ht hv
  obtain ⟨fuel, hf⟩ := h
  obtain ⟨xs, n, _, _, hl, hxl, hg⟩ := DataW.trod_struct ht hf
  simp only [Value.cells] at hl hg
  rw [hz] at hxl
  have at' : ∀ i : Nat, fs[i]?.map (fun (f : Field) => (f.offset, f.type)) = (#[(0, ti), (1, ti), (2, ti), (3, ts), (4, ts), (5, ti), (6, ti), (7, ti), (8, ts), (9, tk), (10, ti), (11, tm)] : Array (Nat × TypeId))[i]? := by
    intro i
    rw [← hfs, Array.getElem?_map]
  obtain ⟨y0, e0, w0⟩ := fld_int (i := 0) (t0 := ti) hg (at' 0) (by omega) ci ui
  obtain ⟨y1, e1, w1⟩ := fld_int (i := 1) (t0 := ti) hg (at' 1) (by omega) ci ui
  obtain ⟨y2, e2, w2⟩ := fld_int (i := 2) (t0 := ti) hg (at' 2) (by omega) ci ui
  obtain ⟨y3, e3, w3⟩ := fld_text (i := 3) (t0 := ts) hg (at' 3) (by omega) cs us
  obtain ⟨y4, e4, w4⟩ := fld_text (i := 4) (t0 := ts) hg (at' 4) (by omega) cs us
  obtain ⟨y5, e5, w5⟩ := fld_int (i := 5) (t0 := ti) hg (at' 5) (by omega) ci ui
  obtain ⟨y6, e6, w6⟩ := fld_int (i := 6) (t0 := ti) hg (at' 6) (by omega) ci ui
  obtain ⟨y7, e7, w7⟩ := fld_int (i := 7) (t0 := ti) hg (at' 7) (by omega) ci ui
  obtain ⟨y8, e8, w8⟩ := fld_text (i := 8) (t0 := ts) hg (at' 8) (by omega) cs us
  obtain ⟨y9, e9, w9⟩ := fld_int (i := 9) (t0 := tk) hg (at' 9) (by omega) ck uk
  obtain ⟨y10, e10, w10⟩ := fld_int (i := 10) (t0 := ti) hg (at' 10) (by omega) ci ui
  obtain ⟨f, f1, f2⟩ := Option.map_eq_some_iff.1 (show fs[11]?.map (fun (f : Field) => (f.offset, f.type)) = some (11, tm) from at' 11)
  obtain ⟨f3, f4⟩ := Prod.mk.inj f2
  have g := hg 11 f f1
  rw [f3, f4, cm, List.getElem?_eq_getElem (by omega)] at g
  obtain ⟨ao, cap, L, e11, hL, hV, hO⟩ := open_moves um ue ce h0 h1 h2 h3 ci ui g
  have e11 := one_at e11
  refine ⟨⟨y0, y1, y2, y3, y4, y5, y6, y7, y8, y9, y10, L⟩, ao, cap, ?_, ⟨w0, w1, w2, w3, w4, w5, w6, w7, w8, w9, w10, hL, hO⟩, hV⟩
  congr 1
  apply Array.ext'
  have hlen : A.toList.length = 12 := by rw [Array.length_toList, hsz, hc]
  generalize A.toList = l at *
  match l, hlen with
  | [x0, x1, x2, x3, x4, x5, x6, x7, x8, x9, x10, x11], _ =>
    simp at e0 e1 e2 e3 e4 e5 e6 e7 e8 e9 e10 e11
    subst e0 e1 e2 e3 e4 e5 e6 e7 e8 e9 e10 e11
    rfl
end
end Go.Proofs.Ythileemkiplodaa
namespace Go.Proofs.Ythileemkiplodaa
open Go.RowKit
set_option maxRecDepth 20000

def stE : St := ⟨⟨#[]⟩, false⟩
def encHead (o : Rec) : St := ((stE.num o.kind 1).num o.client 1).num o.seq 4
def encMove (t : St) (m : Mv) : St := (((t.num m.addr 2).num m.src 2).num m.len 2).num m.dst 2
/-- what is packed of a record -/
def encSt (o : Rec) : St :=
  if o.kind = 1 ∨ o.kind = 2 ∨ o.kind = 3 ∨ o.kind = 5 ∨ o.kind = 8 then (encHead o).text o.path
  else if o.kind = 4 ∨ o.kind = 6 then ((encHead o).text o.path).text o.dest
  else if o.kind = 7 then ((encHead o).text o.path).num o.size 4
  else if o.kind = 9 then (encHead o).num o.handle 4
  else if o.kind = 10 then (((encHead o).num o.handle 4).num o.off 4).text o.data
  else if o.kind = 11 ∨ o.kind = 12 then (encHead o).num o.tick 8
  else if o.kind = 13 then (o.moves.foldl encMove (((encHead o).num o.ino 4).num o.moves.length 1)).text o.data
  else if o.kind = 14 then (((encHead o).text o.data).num o.size 4).num o.off 4
  else encHead o
/-- Encode: the text and the error -/
def encR (o : Rec) : ByteArray × Int := if goodO o then ((encSt o).made, 0) else (⟨#[]⟩, 11)
theorem num_le {t : St} {B : Nat} (h : t.s.size ≤ B) (v n : Int) : (t.num v n).s.size ≤ B + 8 := by
  unfold St.num
  split
  · next hk =>
    have : (putR v n).size ≤ 8 := by
      by_cases hn : 1 ≤ n ∧ n ≤ 8
      · exact putR_small v n hn
      · exfalso
        simp [numOk] at hk
        omega
    show (t.s ++ putR v n).size ≤ B + 8
    rw [ByteArray.size_append]
    omega
  · show t.s.size ≤ B + 8
    omega
theorem text_le {t : St} {B : Nat} (h : t.s.size ≤ B) (x : ByteArray) (hx : x.size ≤ 1000000) : (t.text x).s.size ≤ B + 1000010 := by
  unfold St.text
  split
  · show (t.s ++ (putR x.size 2 ++ x)).size ≤ _
    have := putR_small (x.size : Int) 2 (by decide)
    rw [ByteArray.size_append, ByteArray.size_append]
    omega
  · show t.s.size ≤ _
    omega
theorem foldl_take {L : List Mv} {k : Nat} (hk : k < L.length) (t : St) : (L.take (k + 1)).foldl encMove t = encMove ((L.take k).foldl encMove t) L[k] := by
  rw [List.take_succ_eq_append_getElem hk, List.foldl_append]
  rfl
end Go.Proofs.Ythileemkiplodaa
