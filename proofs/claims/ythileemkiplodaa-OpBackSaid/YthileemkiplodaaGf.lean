/- Plain facts on records: what a record is, which fields its kind has, whether it has a form. No conditions. What the statements' own small function LargeOp returns; what the document's in returns. No conditions. -/
import Derived.Test.YthileemkiplodaaGb
import Derived.Test.YthileemkiplodaaJFrame
set_option linter.unusedVariables false
namespace Go.Proofs.Ythileemkiplodaa
open Go.RowKit

/-- a move: its address, from where, how many bytes, where they stand -/
structure Mv where
  addr : Int
  src : Int
  len : Int
  dst : Int
theorem Mv.ext' {a b : Mv} (h1 : a.addr = b.addr) (h2 : a.src = b.src) (h3 : a.len = b.len) (h4 : a.dst = b.dst) : a = b := by
  cases a; cases b; simp_all
def Mv.same (a b : Mv) : Bool := decide (a.addr = b.addr) && (decide (a.src = b.src) && (decide (a.len = b.len) && decide (a.dst = b.dst)))
theorem Mv.same_iff {a b : Mv} : a.same b = true ↔ a = b := by
  constructor
  · intro h
    simp only [Mv.same, Bool.and_eq_true, decide_eq_true_eq] at h
    exact Mv.ext' h.1 h.2.1 h.2.2.1 h.2.2.2
  · rintro rfl
    simp [Mv.same]
def mvs : List Mv → List Mv → Bool
  | [], [] => true
  | a :: l, b :: m => a.same b && mvs l m
  | _, _ => false
theorem mvs_iff {l m : List Mv} : mvs l m = true ↔ l = m := by
  induction l generalizing m with
  | nil => cases m <;> simp [mvs]
  | cons a l ih => cases m with
    | nil => simp [mvs]
    | cons b m => simp [mvs, Mv.same_iff, ih]
/-- a record -/
structure Rec where
  client : Int
  seq : Int
  kind : Int
  path : ByteArray
  dest : ByteArray
  size : Int
  handle : Int
  off : Int
  data : ByteArray
  tick : Int
  ino : Int
  moves : List Mv
def rec0 : Rec := ⟨0, 0, 0, ⟨#[]⟩, ⟨#[]⟩, 0, 0, 0, ⟨#[]⟩, 0, 0, []⟩
def Rec.same (a b : Rec) : Bool :=
  decide (a.client = b.client) && (decide (a.seq = b.seq) && (decide (a.kind = b.kind) && (decide (a.path = b.path) && (decide (a.dest = b.dest) && (decide (a.size = b.size) && (decide (a.handle = b.handle) && (decide (a.off = b.off) && (decide (a.data = b.data) && (decide (a.tick = b.tick) && (decide (a.ino = b.ino) && mvs a.moves b.moves))))))))))
theorem Rec.same_iff {a b : Rec} : a.same b = true ↔ a = b := by
  constructor
  · intro h
    simp only [Rec.same, Bool.and_eq_true, decide_eq_true_eq, mvs_iff] at h
    cases a; cases b
    simp_all
  · rintro rfl
    simp [Rec.same, mvs_iff]
theorem Rec.same_self (a : Rec) : a.same a = true := Rec.same_iff.2 rfl
/-- which fields a kind has -/
def hasP (k : Int) : Bool := decide (k = 1 ∨ k = 2 ∨ k = 3 ∨ k = 5 ∨ k = 8)
def hasQ (k : Int) : Bool := decide (k = 4 ∨ k = 6)
/-- just the fields that a record's kind has -/
def onlyR (o : Rec) : Rec :=
  if o.kind = 1 ∨ o.kind = 2 ∨ o.kind = 3 ∨ o.kind = 5 ∨ o.kind = 8 then { rec0 with client := o.client, seq := o.seq, kind := o.kind, path := o.path }
  else if o.kind = 4 ∨ o.kind = 6 then { rec0 with client := o.client, seq := o.seq, kind := o.kind, path := o.path, dest := o.dest }
  else if o.kind = 7 then { rec0 with client := o.client, seq := o.seq, kind := o.kind, path := o.path, size := o.size }
  else if o.kind = 9 then { rec0 with client := o.client, seq := o.seq, kind := o.kind, handle := o.handle }
  else if o.kind = 10 then { rec0 with client := o.client, seq := o.seq, kind := o.kind, handle := o.handle, off := o.off, data := o.data }
  else if o.kind = 11 ∨ o.kind = 12 then { rec0 with client := o.client, seq := o.seq, kind := o.kind, tick := o.tick }
  else if o.kind = 13 then { rec0 with client := o.client, seq := o.seq, kind := o.kind, ino := o.ino, moves := o.moves, data := o.data }
  else if o.kind = 14 then { rec0 with client := o.client, seq := o.seq, kind := o.kind, data := o.data, size := o.size, off := o.off }
  else { rec0 with client := o.client, seq := o.seq, kind := o.kind }
def inR (v lo hi : Int) : Bool := decide (lo ≤ v) && decide (v ≤ hi)
theorem inR_iff {v lo hi : Int} : inR v lo hi = true ↔ lo ≤ v ∧ v ≤ hi := by simp [inR]
def mvGood (n : Nat) (m : Mv) : Bool := inR m.addr 0 16383 && (inR m.src 0 1024 && (inR m.len 1 1024 && (inR m.dst 0 1024 && decide (m.dst + m.len ≤ (n : Int)))))
/-- are its kind's fields as they must be? -/
def formR (o : Rec) : Bool :=
  if o.kind = 1 ∨ o.kind = 2 ∨ o.kind = 3 ∨ o.kind = 5 ∨ o.kind = 8 then goodR o.path
  else if o.kind = 4 ∨ o.kind = 6 then goodR o.path && goodR o.dest
  else if o.kind = 7 then goodR o.path && inR o.size 0 8192
  else if o.kind = 9 then inR o.handle 0 16383
  else if o.kind = 10 then inR o.handle 0 16383 && (inR o.off 0 8192 && inR o.data.size 1 1024)
  else if o.kind = 11 ∨ o.kind = 12 then inR o.tick 0 1099511627776
  else if o.kind = 13 then inR o.ino 1 2147483647 && (inR o.moves.length 1 16 && (decide ((o.data.size : Int) ≤ 1024) && o.moves.all (mvGood o.data.size)))
  else if o.kind = 14 then inR o.data.size 1 1024 && (inR o.size 1 65536 && (inR o.off 0 o.size && decide (o.off + o.data.size ≤ o.size)))
  else false
/-- has a record a form? -/
def goodO (o : Rec) : Bool := inR o.client 0 7 && (inR o.seq 1 2147483647 && (o.same (onlyR o) && formR o))

/-- a record's cells, beside those of its moves -/
def recA (o : Rec) (mv : Value) : Array Value := #[.int .i64 o.client, .int .i64 o.seq, .int .i64 o.kind, .string o.path, .string o.dest, .int .i64 o.size, .int .i64 o.handle, .int .i64 o.off, .string o.data, .int .i64 o.tick, .int .i64 o.ino, mv]
/-- the row at ao holds the moves L -/
def VL (w : World) (ao : Option Addr) (L : List Mv) : Prop := ∀ i (h : i < L.length), ∃ bk off, ao = some ⟨bk, off, none⟩ ∧ w.cell? ⟨bk, off + i * 4, none⟩ = some (.int .i64 L[i].addr) ∧ w.cell? ⟨bk, off + i * 4 + 1, none⟩ = some (.int .i64 L[i].src) ∧ w.cell? ⟨bk, off + i * 4 + 2, none⟩ = some (.int .i64 L[i].len) ∧ w.cell? ⟨bk, off + i * 4 + 3, none⟩ = some (.int .i64 L[i].dst)
theorem VL.nil (w : World) (ao : Option Addr) : VL w ao [] := fun i h => absurd h (Nat.not_lt_zero i)
theorem VL.below {w w' : World} {ao : Option Addr} {L : List Mv} (h : VL w ao L) (hb : Below w.heap.size w w') : VL w' ao L := by
  intro i hi
  obtain ⟨bk, off, h1, h2, h3, h4, h5⟩ := h i hi
  exact ⟨bk, off, h1, (hb.cell (p := ⟨bk, _, none⟩) (block_lt_of_cell h2)).trans h2, (hb.cell (p := ⟨bk, _, none⟩) (block_lt_of_cell h3)).trans h3, (hb.cell (p := ⟨bk, _, none⟩) (block_lt_of_cell h4)).trans h4, (hb.cell (p := ⟨bk, _, none⟩) (block_lt_of_cell h5)).trans h5⟩
end Go.Proofs.Ythileemkiplodaa
namespace Go.Proofs.Ythileemkiplodaa
open Go.RowKit

theorem rin_any (v lo hi : Int) (w : World) :
    Calls Try.prog 29 #[.int .i64 v, .int .i64 lo, .int .i64 hi] w fun e w' => e = .returned (.bool (inR v lo hi)) ∧ w = w' := by
  by_cases h1 : lo ≤ v
  · by_cases h2 : v ≤ hi
    · rw [show inR v lo hi = true from inR_iff.2 ⟨h1, h2⟩]
      go_enter Try.func29, Try.ntmps29
      go_wp2
      go_ret
      exact ⟨rfl, rfl⟩
    · rw [show inR v lo hi = false by simp [inR, h2]]
      have d2 : decide (v ≤ hi) = false := decide_eq_false h2
      clear h2
      go_enter Try.func29, Try.ntmps29
      go_wp2
      go_ret
      exact ⟨rfl, rfl⟩
  · rw [show inR v lo hi = false by simp [inR, h1]]
    have d1 : decide (lo ≤ v) = false := decide_eq_false h1
    clear h1
    go_enter Try.func29, Try.ntmps29
    go_wp2
    go_ret
    exact ⟨rfl, rfl⟩
/-- is a record too large to be gone through? -/
def largeR (o : Rec) : Bool := decide (2000 < o.path.size ∨ 2000 < o.dest.size ∨ 5000 < o.data.size ∨ 100 < o.moves.length)
theorem large_any (o : Rec) (ao : Option Addr) (cap : Nat) (w : World) :
    Calls Try.prog 8 #[.agg (recA o (.slice ao o.moves.length cap))] w fun e w' => e = .returned (.bool (largeR o)) ∧ Below w.heap.size w w' := by
  unfold recA
  have HB := Lib.hid (fun (x : Obj) => show Below w.heap.size w (w.alloc x) from (Below.refl _ _).alloc (Nat.le_refl _) _)
  by_cases h1 : 2000 < o.path.size
  · rw [show largeR o = true by simp [largeR, h1]]
    have h1' : (2000 : Int) < o.path.size := by omega
    clear h1
    go_enter Try.func8, Try.ntmps8
    go_wp2
    go_ret
    exact ⟨rfl, HB.out _⟩
  by_cases h2 : 2000 < o.dest.size
  · rw [show largeR o = true by simp [largeR, h2]]
    have h1' : (o.path.size : Int) ≤ 2000 := by omega
    have h2' : (2000 : Int) < o.dest.size := by omega
    clear h1 h2
    go_enter Try.func8, Try.ntmps8
    go_wp2
    go_ret
    exact ⟨rfl, HB.out _⟩
  by_cases h3 : 5000 < o.data.size
  · rw [show largeR o = true by simp [largeR, h3]]
    have h1' : (o.path.size : Int) ≤ 2000 := by omega
    have h2' : (o.dest.size : Int) ≤ 2000 := by omega
    have h3' : (5000 : Int) < o.data.size := by omega
    clear h1 h2 h3
    go_enter Try.func8, Try.ntmps8
    go_wp2
    go_ret
    exact ⟨rfl, HB.out _⟩
  have h1' : (o.path.size : Int) ≤ 2000 := by omega
  have h2' : (o.dest.size : Int) ≤ 2000 := by omega
  have h3' : (o.data.size : Int) ≤ 5000 := by omega
  by_cases h4 : 100 < o.moves.length
  · rw [show largeR o = true by simp [largeR, h4]]
    have h4' : (100 : Int) < o.moves.length := by omega
    clear h1 h2 h3 h4
    go_enter Try.func8, Try.ntmps8
    go_wp2
    go_ret
    exact ⟨rfl, HB.out _⟩
  · rw [show largeR o = false by simp [largeR]; omega]
    have e1 : decide ((2000 : Int) < o.path.size) = false := decide_eq_false (by omega)
    have e2 : decide ((2000 : Int) < o.dest.size) = false := decide_eq_false (by omega)
    have e3 : decide ((5000 : Int) < o.data.size) = false := decide_eq_false (by omega)
    have e4 : decide ((100 : Int) < o.moves.length) = false := decide_eq_false (by omega)
    clear h1 h2 h3 h4 h1' h2' h3'
    go_enter Try.func8, Try.ntmps8
    go_wp2
    go_ret
    exact ⟨rfl, HB.out _⟩
end Go.Proofs.Ythileemkiplodaa
