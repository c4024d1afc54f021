/- Plain facts on fields: what each tells of a record, what is packed of it, taken into it, cleared of it. No conditions. What put and take of a list of fields do: each field in its turn. Conditions: each field does what it is said to do. -/
import Derived.Test.YthileemkiplodaaGo
import Derived.Test.YthileemkiplodaaGi
import Derived.Test.YthileemkiplodaaJOpB
import Derived.Test.YthileemkiplodaaGe
import Derived.Test.YthileemkiplodaaGw
set_option linter.unusedVariables false
namespace Go.Proofs.Ythileemkiplodaa
open Go.RowKit
set_option maxRecDepth 20000

def Rec.int (o : Rec) (j : Nat) : Int := if j = 0 then o.client else if j = 1 then o.seq else if j = 5 then o.size else if j = 6 then o.handle else if j = 7 then o.off else if j = 9 then o.tick else o.ino
def Rec.txt (o : Rec) (j : Nat) : ByteArray := if j = 3 then o.path else if j = 4 then o.dest else o.data
def Rec.setI (o : Rec) (j : Nat) (v : Int) : Rec := if j = 0 then { o with client := v } else if j = 1 then { o with seq := v } else if j = 5 then { o with size := v } else if j = 6 then { o with handle := v } else if j = 7 then { o with off := v } else if j = 9 then { o with tick := v } else { o with ino := v }
def Rec.setT (o : Rec) (j : Nat) (x : ByteArray) : Rec := if j = 3 then { o with path := x } else if j = 4 then { o with dest := x } else { o with data := x }
def isI (j : Nat) : Prop := j = 0 ∨ j = 1 ∨ j = 5 ∨ j = 6 ∨ j = 7 ∨ j = 9 ∨ j = 10
def isT (j : Nat) : Prop := j = 3 ∨ j = 4 ∨ j = 8
theorem recA_int {j : Nat} (h : isI j) (o : Rec) (mv : Value) : (recA o mv)[j]? = some (.int .i64 (o.int j)) := by
  rcases h with rfl | rfl | rfl | rfl | rfl | rfl | rfl <;> rfl
theorem recA_txt {j : Nat} (h : isT j) (o : Rec) (mv : Value) : (recA o mv)[j]? = some (.string (o.txt j)) := by
  rcases h with rfl | rfl | rfl <;> rfl
theorem recA_setI {j : Nat} (h : isI j) (o : Rec) (mv : Value) (v : Int) : (recA o mv).setIfInBounds j (.int .i64 v) = recA (o.setI j v) mv := by
  rcases h with rfl | rfl | rfl | rfl | rfl | rfl | rfl <;> rfl
theorem recA_setT {j : Nat} (h : isT j) (o : Rec) (mv : Value) (x : ByteArray) : (recA o mv).setIfInBounds j (.string x) = recA (o.setT j x) mv := by
  rcases h with rfl | rfl | rfl <;> rfl
theorem recA_setM (o : Rec) (mv mv' : Value) (L : List Mv) : (recA o mv).setIfInBounds 11 mv' = recA { o with moves := L } mv' := rfl
theorem setI_moves {j : Nat} (o : Rec) (v : Int) : (o.setI j v).moves = o.moves := by
  unfold Rec.setI
  repeat' split
  all_goals rfl
theorem setT_moves {j : Nat} (o : Rec) (x : ByteArray) : (o.setT j x).moves = o.moves := by
  unfold Rec.setT
  repeat' split
  all_goals rfl
/-- a move as the program holds it good, among data of d bytes -/
def mvC (d : Int) (m : Mv) : Bool := inR m.addr 0 16383 && (inR m.src 0 1024 && (inR m.len 1 1024 && inR m.dst 0 (wrap64 (d - m.len))))
def Fd.ok : Fd → Prop
  | .num j n _ _ => isI j ∧ 0 ≤ n ∧ n ≤ 8
  | .tick j n _ _ => isI j ∧ 0 ≤ n ∧ n ≤ 8
  | .path j => isT j
  | .data j _ _ => isT j
  | .mvs j d => j = 11 ∧ -9223372036854775808 ≤ d ∧ d ≤ 9223372036854775807
def Fd.good (o : Rec) : Fd → Bool
  | .num j _ lo hi => inR (o.int j) lo hi
  | .tick j _ lo hi => inR (o.int j) lo hi
  | .path j => goodR (o.txt j)
  | .data j _ x => inR (o.txt j).size x 1024
  | .mvs _ d => inR o.moves.length 1 16 && o.moves.all (mvC d)
def Fd.clear (o : Rec) : Fd → Rec
  | .num j _ _ _ => o.setI j 0
  | .tick j _ _ _ => o.setI j 0
  | .path j => o.setT j ⟨#[]⟩
  | .data j _ _ => o.setT j ⟨#[]⟩
  | .mvs _ _ => { o with moves := [] }
def Fd.put (o : Rec) (t : St) : Fd → St
  | .num j n _ _ => t.num (o.int j) n
  | .tick j n _ _ => t.num (o.int j) n
  | .path j => t.text (o.txt j)
  | .data j _ _ => t.text (o.txt j)
  | .mvs _ _ => o.moves.foldl encMove (t.num o.moves.length 1)
def Fd.take (x : Rec × Option ByteArray) : Fd → Rec × Option ByteArray
  | .num j n _ _ => (x.1.setI j (numV x.2 n), numO x.2 n)
  | .tick j n _ _ => (x.1.setI j (numV x.2 n), numO x.2 n)
  | .path j => (x.1.setT j (textV x.2 4096), textO x.2 4096)
  | .data j _ _ => (x.1.setT j (textV x.2 4096), textO x.2 4096)
  | .mvs _ _ => ({ x.1 with moves := (decMoves (numV x.2 1).toNat [] (numO x.2 1)).1 }, (decMoves (numV x.2 1).toNat [] (numO x.2 1)).2)
/-- block b is the record o, its moves in a row elsewhere -/
def RB (w : World) (b : Nat) (o : Rec) : Prop := ∃ ao cap, w.heap[b]? = some (.cells (recA o (.slice ao o.moves.length cap)) 24 (0, 0)) ∧ VLI w ao cap o.moves ∧ ∀ a, ao = some a → o.moves = [] ∨ a.block ≠ b
theorem RB.below {w w' : World} {b : Nat} {o : Rec} (h : RB w b o) (hb : Below w.heap.size w w') : RB w' b o := by
  obtain ⟨ao, cap, h1, h2, h3⟩ := h
  exact ⟨ao, cap, below_heap hb h1, h2.below hb, h3⟩
theorem RB.lt {w : World} {b : Nat} {o : Rec} (h : RB w b o) : b < w.heap.size := by
  obtain ⟨ao, cap, h1, _⟩ := h
  exact lt_of_block h1
/-- block g is a list of fields of the record in block b; the closures' blocks lie where they were told; none of them is a block that S leaves out -/
structure LF (S : Nat → Prop) (w : World) (b g : Nat) (L : List Fd) : Prop where
  cells : ∀ i (h : i < L.length), w.cell? ⟨g, i, none⟩ = some (L[i].val b)
  ok : ∀ f, f ∈ L → f.ok
  data : ∀ j l x, Fd.data j l x ∈ L → w.cell? ⟨l, 0, none⟩ = some (.int .i64 x) ∧ S l
  here : S g
theorem cellK {S : Nat → Prop} {w w' : World} (hk : Kept S w w') {b i : Nat} {v : Value} (hs : S b) (h : w.cell? ⟨b, i, none⟩ = some v) : w'.cell? ⟨b, i, none⟩ = some v := (World.cell?_of_block (hk.block b hs (block_lt_of_cell h))).trans h
theorem LF.keep {S : Nat → Prop} {w w' : World} {b g : Nat} {L : List Fd} (h : LF S w b g L) (hk : Kept S w w') : LF S w' b g L :=
  ⟨fun i hi => cellK hk h.here (h.cells i hi), h.ok, fun j l x hm => ⟨cellK hk (h.data j l x hm).2 (h.data j l x hm).1, (h.data j l x hm).2⟩, h.here⟩
end Go.Proofs.Ythileemkiplodaa
namespace Go.Proofs.Ythileemkiplodaa
open Go.RowKit
set_option maxRecDepth 20000

/-- field v, told to f, turns the state by step -/
def Does {σ : Type} (fns : FuncId × FuncId × FuncId × FuncId) (I : σ → World → Prop) (u : Nat) (v : Value) (step : σ → σ) : Prop :=
  ∃ T x fn, v = .iface T (.agg x) ∧ ((T = 108 ∧ fn = fns.1) ∨ (T = 118 ∧ fn = fns.2.1) ∨ (T = 100 ∧ fn = fns.2.2.1) ∨ (T = 106 ∧ fn = fns.2.2.2)) ∧
    ∀ s w, I s w → Calls Try.prog fn #[.agg x, ptr u] w fun e w' => e = .returned (.tuple #[]) ∧ I (step s) w'
def putFns : FuncId × FuncId × FuncId × FuncId := (110, 114, 98, 105)
def takeFns : FuncId × FuncId × FuncId × FuncId := (111, 115, 99, 106)
theorem fold_step {σ τ : Type} (l : List τ) (f : σ → τ → σ) (s : σ) {k : Nat} (hk : k < l.length) : (l.take (k + 1)).foldl f s = f ((l.take k).foldl f s) l[k] := by
  rw [List.take_succ_eq_append_getElem hk, List.foldl_append]
  rfl
set_option maxHeartbeats 2000000 in
theorem put_loop {σ τ : Type} (I : σ → World → Prop) (p g cap : Nat) (L : List τ) (V : τ → Value) (step : σ → τ → σ) (s : σ) (w : World) (hl : L.length ≤ 1000000) (hI : I s w) (hc : ∀ s w, I s w → ∀ i (h : i < L.length), w.cell? ⟨g, i, none⟩ = some (V L[i]))
    (hd : ∀ f, f ∈ L → Does putFns I p (V f) (fun s => step s f)) :
    Calls Try.prog 23 #[ptr p, .slice (some ⟨g, 0, none⟩) L.length cap] w fun e w' => e = .returned (.tuple #[]) ∧ I (L.foldl step s) w' := by
  have hl' : (L.length : Int) ≤ 1000000 := by omega
  have HI := Lib.hid hI
  have HC := Lib.hid hc
  have HD := Lib.hid hd
  clear hI hc hd hl
  go_enter Try.func23, Try.ntmps23
  go_wp2
  go_loopw [8] (fun i wr => ∃ k : Nat, i = .int .i64 k ∧ k ≤ L.length ∧ Hid (I ((L.take k).foldl step s) wr)) (fun i _ => L.length - (intOf i).toNat)
  case atStart => exact ⟨0, rfl, Nat.zero_le _, HI⟩
  case round =>
    obtain ⟨k, rfl, hk, HT⟩ := hrel
    by_cases hlt : k < L.length
    rotate_left
    · obtain rfl : k = L.length := by omega
      have HT2 : I (L.foldl step s) wr := by have := HT.out; rwa [List.take_of_length_le (Nat.le_refl _)] at this
      go_wp2
      go_end0
      exact ⟨rfl, HT2⟩
    have hcell := HC.out _ _ HT.out k hlt
    obtain ⟨T, x, fn, hv, hT, hcall⟩ := HD.out L[k] (List.getElem_mem hlt)
    rw [hv] at hcell
    have HS := Lib.hid (fold_step L step s hlt)
    have hcall' := hcall _ _ HT.out
    clear hcall hv
    rcases hT with ⟨rfl, rfl⟩ | ⟨rfl, rfl⟩ | ⟨rfl, rfl⟩ | ⟨rfl, rfl⟩
    · go_wp2_with (go_at_call 110; refine hcall'.mono ?_; rintro e w1 ⟨rfl, h1⟩)
      go_roundw
      case rel => exact ⟨k + 1, by go_num, by omega, by rw [HS.out]; exact Lib.hid h1⟩
      case measure => simp [intOf]; omega
    · go_wp2_with (go_at_call 114; refine hcall'.mono ?_; rintro e w1 ⟨rfl, h1⟩)
      go_roundw
      case rel => exact ⟨k + 1, by go_num, by omega, by rw [HS.out]; exact Lib.hid h1⟩
      case measure => simp [intOf]; omega
    · go_wp2_with (go_at_call 98; refine hcall'.mono ?_; rintro e w1 ⟨rfl, h1⟩)
      go_roundw
      case rel => exact ⟨k + 1, by go_num, by omega, by rw [HS.out]; exact Lib.hid h1⟩
      case measure => simp [intOf]; omega
    · go_wp2_with (go_at_call 105; refine hcall'.mono ?_; rintro e w1 ⟨rfl, h1⟩)
      go_roundw
      case rel => exact ⟨k + 1, by go_num, by omega, by rw [HS.out]; exact Lib.hid h1⟩
      case measure => simp [intOf]; omega
set_option maxHeartbeats 2000000 in
theorem take_loop {σ τ : Type} (I : σ → World → Prop) (p g cap : Nat) (L : List τ) (V : τ → Value) (step : σ → τ → σ) (s : σ) (w : World) (hl : L.length ≤ 1000000) (hI : I s w) (hc : ∀ s w, I s w → ∀ i (h : i < L.length), w.cell? ⟨g, i, none⟩ = some (V L[i]))
    (hd : ∀ f, f ∈ L → Does takeFns I p (V f) (fun s => step s f)) :
    Calls Try.prog 33 #[ptr p, .slice (some ⟨g, 0, none⟩) L.length cap] w fun e w' => e = .returned (.tuple #[]) ∧ I (L.foldl step s) w' := by
  have hl' : (L.length : Int) ≤ 1000000 := by omega
  have HI := Lib.hid hI
  have HC := Lib.hid hc
  have HD := Lib.hid hd
  clear hI hc hd hl
  go_enter Try.func33, Try.ntmps33
  go_wp2
  go_loopw [8] (fun i wr => ∃ k : Nat, i = .int .i64 k ∧ k ≤ L.length ∧ Hid (I ((L.take k).foldl step s) wr)) (fun i _ => L.length - (intOf i).toNat)
  case atStart => exact ⟨0, rfl, Nat.zero_le _, HI⟩
  case round =>
    obtain ⟨k, rfl, hk, HT⟩ := hrel
    by_cases hlt : k < L.length
    rotate_left
    · obtain rfl : k = L.length := by omega
      have HT2 : I (L.foldl step s) wr := by have := HT.out; rwa [List.take_of_length_le (Nat.le_refl _)] at this
      go_wp2
      go_end0
      exact ⟨rfl, HT2⟩
    have hcell := HC.out _ _ HT.out k hlt
    obtain ⟨T, x, fn, hv, hT, hcall⟩ := HD.out L[k] (List.getElem_mem hlt)
    rw [hv] at hcell
    have HS := Lib.hid (fold_step L step s hlt)
    have hcall' := hcall _ _ HT.out
    clear hcall hv
    rcases hT with ⟨rfl, rfl⟩ | ⟨rfl, rfl⟩ | ⟨rfl, rfl⟩ | ⟨rfl, rfl⟩
    · go_wp2_with (go_at_call 111; refine hcall'.mono ?_; rintro e w1 ⟨rfl, h1⟩)
      go_roundw
      case rel => exact ⟨k + 1, by go_num, by omega, by rw [HS.out]; exact Lib.hid h1⟩
      case measure => simp [intOf]; omega
    · go_wp2_with (go_at_call 115; refine hcall'.mono ?_; rintro e w1 ⟨rfl, h1⟩)
      go_roundw
      case rel => exact ⟨k + 1, by go_num, by omega, by rw [HS.out]; exact Lib.hid h1⟩
      case measure => simp [intOf]; omega
    · go_wp2_with (go_at_call 99; refine hcall'.mono ?_; rintro e w1 ⟨rfl, h1⟩)
      go_roundw
      case rel => exact ⟨k + 1, by go_num, by omega, by rw [HS.out]; exact Lib.hid h1⟩
      case measure => simp [intOf]; omega
    · go_wp2_with (go_at_call 106; refine hcall'.mono ?_; rintro e w1 ⟨rfl, h1⟩)
      go_roundw
      case rel => exact ⟨k + 1, by go_num, by omega, by rw [HS.out]; exact Lib.hid h1⟩
      case measure => simp [intOf]; omega
end Go.Proofs.Ythileemkiplodaa
