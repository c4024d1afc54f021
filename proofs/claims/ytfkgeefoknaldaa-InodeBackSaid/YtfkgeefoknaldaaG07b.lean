/- Stage 20: the table of inodes, plainly: inodes by rising numbers, and what the calls tell and make of them. No conditions. Plain facts: parts are good, one by one. No conditions but those that the statements name. -/
import Derived.Test.YtfkgeefoknaldaaG06b
set_option linter.unusedVariables false
namespace Go.Proofs.Ytfkgeefoknaldaa
set_option linter.unusedVariables false
set_option maxRecDepth 20000
/-- an inode -/
structure Ino where
  ino : Int
  kind : Int
  links : Int
  opens : Int
  size : Int
  parts : List Pt
instance : Inhabited Ino := ⟨⟨0, 0, 0, 0, 0, []⟩⟩
/-- inodes by rising numbers, the next number -/
structure Tb where
  l : List Ino
  next : Int
def rootI : Ino := ⟨1, 1, 1, 0, 0, []⟩
def newT : Tb := ⟨[rootI], 2⟩
/-- the place of a number; as many as there are: it is not there -/
def spotI (l : List Ino) (n : Int) : Nat := l.findIdx (fun x => decide (x.ino = n))
/-- an inode turned, or gone -/
def turnI (l : List Ino) (n : Int) (f : Ino → Ino) : List Ino := l.map (fun x => if x.ino = n then f x else x)
def dropI (l : List Ino) (n : Int) : List Ino := l.filter (fun x => !decide (x.ino = n))
def hasI (l : List Ino) (n : Int) : Bool := l.any (fun x => decide (x.ino = n))
def getI (l : List Ino) (n : Int) : Option Ino := l.find? (fun x => decide (x.ino = n))
/-- one that has neither links nor opens goes -/
def endsI (l : List Ino) (n : Int) : List Ino := l.filter (fun x => !decide (x.ino = n ∧ x.links = 0 ∧ x.opens = 0))
def kindB (k : Int) : Bool := decide (k = 1 ∨ k = 2)
def stepB (by_ : Int) : Bool := decide (by_ = 1 ∨ by_ = -1)
def makeI (t : Tb) (kind : Int) : Tb × Int × Int :=
  if kindB kind = true then (if t.l.length < 64 then (⟨t.l ++ [⟨t.next, kind, 0, 0, 0, []⟩], t.next + 1⟩, t.next, 0) else (t, 0, 67)) else (t, 0, 1)
def linkI (t : Tb) (n by_ : Int) : Tb × Int :=
  match getI t.l n with
  | none => (t, 60)
  | some x =>
    if stepB by_ = true ∧ n ≠ 1 then
      (if 0 ≤ x.links + by_ ∧ x.links + by_ ≤ 8 then
        (let m := turnI t.l n (fun y => { y with links := y.links + by_ })
         (⟨if by_ < 0 then endsI m n else m, t.next⟩, 0))
       else (t, 66))
    else (t, 1)
def openI (t : Tb) (n by_ : Int) : Tb × Int :=
  match getI t.l n with
  | none => (t, 60)
  | some x =>
    if stepB by_ = true then
      (if x.kind = 1 then (t, 63)
       else if 0 ≤ x.opens + by_ ∧ x.opens + by_ ≤ 128 then
        (let m := turnI t.l n (fun y => { y with opens := y.opens + by_ })
         (⟨if by_ < 0 then endsI m n else m, t.next⟩, 0))
       else (t, 3))
    else (t, 1)
/-- of a file: what a call does to it -/
def fileI (t : Tb) (n : Int) (f : Ino → Ino × Int) : Tb × Int :=
  match getI t.l n with
  | none => (t, 60)
  | some x => if x.kind = 1 then (t, 63) else (⟨turnI t.l n (fun y => (f y).1), t.next⟩, (f x).2)
def spaceI (e : Int) : Int := if e = 3 then 67 else e
def writeF (off n addr : Int) (x : Ino) : Ino × Int :=
  if 0 ≤ off ∧ off ≤ 8192 ∧ 1 ≤ n ∧ n ≤ 1024 ∧ off + n ≤ 8192 then
    (if (putE x.parts ⟨off, n, addr, 0⟩).2 = 0 then ({ x with parts := (putE x.parts ⟨off, n, addr, 0⟩).1, size := max x.size (off + n) }, 0)
     else (x, spaceI (putE x.parts ⟨off, n, addr, 0⟩).2))
  else (x, 67)
def truncF (size : Int) (x : Ino) : Ino × Int :=
  if 0 ≤ size ∧ size ≤ 8192 then ({ x with parts := cutE x.parts size, size := size }, 0) else (x, 67)
/-- the moves, one behind the other -/
def movesE (to : Int) : List Pt → List Mv → List Pt × Int
  | l, [] => (l, 0)
  | l, m :: ms => if (moveE l m to).2 = 0 then movesE to (moveE l m to).1 ms else ([], (moveE l m to).2)
def moveF (ms : List Mv) (to : Int) (x : Ino) : Ino × Int :=
  if (movesE to x.parts ms).2 = 0 then ({ x with parts := (movesE to x.parts ms).1 }, 0) else (x, spaceI (movesE to x.parts ms).2)
def writeI (t : Tb) (n off k addr : Int) : Tb × Int := fileI t n (writeF off k addr)
def truncI (t : Tb) (n size : Int) : Tb × Int := fileI t n (truncF size)
def movI (t : Tb) (n : Int) (ms : List Mv) (to : Int) : Tb × Int := fileI t n (moveF ms to)
/-- may a table be so? (but for its root) -/
def inoB (next : Int) (x : Ino) : Prop := (1 ≤ x.ino ∧ x.ino < next) ∧ (x.kind = 1 ∨ x.kind = 2) ∧ (0 ≤ x.links ∧ x.links ≤ 8) ∧ (0 ≤ x.opens ∧ x.opens ≤ 128) ∧ (x.kind = 1 → x.opens = 0 ∧ x.size = 0 ∧ x.parts = []) ∧ (0 ≤ x.size ∧ x.size ≤ 8192) ∧ goodE x.parts = true ∧ endE x.parts ≤ x.size
structure TbI (t : Tb) : Prop where
  each : ∀ x ∈ t.l, inoB t.next x
  rise : t.l.Pairwise (fun x y => x.ino < y.ino)
  most : t.l.length ≤ 64
  root : ∃ m, t.l = rootI :: m
  next : 2 ≤ t.next
/-- none there has neither links nor opens -/
def fedI (t : Tb) : Prop := ∀ x ∈ t.l, 1 ≤ x.links + x.opens
theorem TbI.new : TbI newT := by
  refine ⟨fun x hx => ?_, List.pairwise_singleton _ _, by decide, ⟨[], rfl⟩, by decide⟩
  rw [List.mem_singleton.1 hx]
  exact ⟨⟨by decide, by decide⟩, .inl rfl, ⟨by decide, by decide⟩, ⟨by decide, by decide⟩, fun _ => ⟨rfl, rfl, rfl⟩, ⟨by decide, by decide⟩, by kernel_rfl, by decide +kernel⟩
theorem getI_some {l : List Ino} {n : Int} {x : Ino} (h : getI l n = some x) : x ∈ l ∧ x.ino = n :=
  ⟨List.mem_of_find?_eq_some h, by have := List.find?_some (p := fun x : Ino => decide (x.ino = n)) h; simpa using this⟩
theorem getI_none {l : List Ino} {n : Int} (h : getI l n = none) : ∀ x ∈ l, x.ino ≠ n := fun x hx e =>
  absurd (List.find?_eq_none.1 h x hx) (by simp [e])
theorem TbI.only {t : Tb} (h : TbI t) {x y : Ino} (hx : x ∈ t.l) (hy : y ∈ t.l) (e : x.ino = y.ino) : x = y := by
  obtain ⟨i, hi, rfl⟩ := List.getElem_of_mem hx
  obtain ⟨j, hj, rfl⟩ := List.getElem_of_mem hy
  have hp := List.pairwise_iff_getElem.1 h.rise
  rcases Nat.lt_trichotomy i j with c | c | c
  · have := hp i j hi hj c; omega
  · subst c; rfl
  · have := hp j i hj hi c; omega
theorem TbI.turn {t : Tb} (h : TbI t) {n : Int} {f : Ino → Ino} {x : Ino} (hx : getI t.l n = some x) (hn : n ≠ 1) (hf : (f x).ino = x.ino) (hb : inoB t.next (f x)) : TbI ⟨turnI t.l n f, t.next⟩ := by
  obtain ⟨hm, he⟩ := getI_some hx
  have hg : ∀ y ∈ t.l, y.ino = n → y = x := fun y hy e => h.only hy hm (by omega)
  have hi : ∀ y ∈ t.l, (if y.ino = n then f y else y).ino = y.ino := fun y hy => by
    by_cases e : y.ino = n
    · rw [if_pos e, hg y hy e, hf]
    · rw [if_neg e]
  refine ⟨fun y hy => ?_, ?_, by show (turnI t.l n f).length ≤ 64; unfold turnI; rw [List.length_map]; exact h.most, ?_, h.next⟩
  · obtain ⟨z, hz, rfl⟩ := List.mem_map.1 hy
    by_cases e : z.ino = n
    · rw [if_pos e, hg z hz e]; exact hb
    · rw [if_neg e]; exact h.each z hz
  · show (turnI t.l n f).Pairwise _
    unfold turnI
    rw [List.pairwise_map]
    refine h.rise.imp_of_mem (fun {a b} ha hb2 hab => ?_)
    rw [hi a ha, hi b hb2]
    exact hab
  · obtain ⟨m, hm2⟩ := h.root
    refine ⟨turnI m n f, ?_⟩
    show turnI t.l n f = _
    rw [hm2]
    show (if rootI.ino = n then f rootI else rootI) :: _ = _
    rw [if_neg (fun e => hn (by rw [← e]; rfl))]
    rfl
theorem TbI.ends {t : Tb} (h : TbI t) (n : Int) : TbI ⟨endsI t.l n, t.next⟩ := by
  refine ⟨fun y hy => h.each y (List.mem_filter.1 hy).1, h.rise.filter _, Nat.le_trans (List.length_filter_le _ _) h.most, ?_, h.next⟩
  obtain ⟨m, hm⟩ := h.root
  refine ⟨endsI m n, ?_⟩
  show endsI t.l n = _
  rw [hm]
  unfold endsI
  rw [List.filter_cons_of_pos (by simp [rootI])]
end Go.Proofs.Ytfkgeefoknaldaa
namespace Go.Proofs.Ytfkgeefoknaldaa
set_option linter.unusedVariables false
set_option maxRecDepth 20000
open Go.RowKit
theorem rail_iff {l : List Pt} : railB l = true ↔ (∀ k (h : k < l.length), oneB l[k] = true) ∧ ∀ k (h : k + 1 < l.length), fitB l[k] l[k + 1] = true := by
  induction l with
  | nil => exact ⟨fun _ => ⟨fun k h => absurd h (Nat.not_lt_zero k), fun k h => absurd h (Nat.not_lt_zero _)⟩, fun _ => rfl⟩
  | cons x l ih =>
    constructor
    · intro h
      obtain ⟨h1, h2, h3⟩ := railB_cons h
      obtain ⟨g1, g2⟩ := ih.1 h2
      refine ⟨fun k hk => ?_, fun k hk => ?_⟩
      · cases k with
        | zero => exact h1
        | succ k => exact g1 k (by simpa using hk)
      · cases k with
        | zero =>
          cases l with
          | nil => simp at hk
          | cons y m => exact h3 y m rfl
        | succ k => exact g2 k (by simpa using hk)
    · rintro ⟨h1, h2⟩
      refine railB_of (h1 0 (by simp)) (ih.2 ⟨fun k hk => h1 (k + 1) (by simpa using hk), fun k hk => h2 (k + 1) (by simpa using hk)⟩) (fun y m e => ?_)
      subst e
      exact h2 0 (by simp)
/-- the first k are good, and each is no going on of the one ahead -/
def upB (l : List Pt) (k : Nat) : Prop := (∀ j (h : j < l.length), j < k → oneB l[j] = true) ∧ ∀ j (h : j + 1 < l.length), j + 1 < k → fitB l[j] l[j + 1] = true
theorem upB_zero (l : List Pt) : upB l 0 := ⟨fun _ _ h => absurd h (Nat.not_lt_zero _), fun _ _ h => absurd h (Nat.not_lt_zero _)⟩
theorem upB_one {l : List Pt} (h0 : 0 < l.length) (h1 : oneB l[0] = true) : upB l 1 := ⟨fun j hj hk => (by obtain rfl : j = 0 := (by omega); exact h1), fun j hj hk => (by omega)⟩
theorem upB_next {l : List Pt} {k : Nat} (h : upB l (k + 1)) (hk : k + 1 < l.length) (h1 : oneB l[k + 1] = true) (h2 : fitB l[k] l[k + 1] = true) : upB l (k + 1 + 1) := by
  refine ⟨fun j hj hjk => ?_, fun j hj hjk => ?_⟩
  · by_cases e : j < k + 1
    · exact h.1 j hj e
    · obtain rfl : j = k + 1 := by omega
      exact h1
  · by_cases e : j + 1 < k + 1
    · exact h.2 j hj e
    · obtain rfl : j = k := by omega
      exact h2
theorem upB_all {l : List Pt} (hl : l.length ≤ 64) (h : upB l l.length) : goodE l = true :=
  goodE_iff.2 ⟨hl, rail_iff.2 ⟨fun k hk => h.1 k hk hk, fun k hk => h.2 k hk hk⟩⟩
theorem good_long {l : List Pt} (hl : ¬ l.length ≤ 64) : goodE l = false := Bool.eq_false_iff.2 (fun e => hl (goodE_iff.1 e).1)
theorem good_no1 {l : List Pt} {k : Nat} (hk : k < l.length) (h : oneB l[k] = false) : goodE l = false := Bool.eq_false_iff.2 (fun e => by
  have := (rail_iff.1 (goodE_iff.1 e).2).1 k hk
  rw [h] at this
  cases this)
theorem good_no2 {l : List Pt} {k : Nat} (hk : k + 1 < l.length) (h : fitB l[k] l[k + 1] = false) : goodE l = false := Bool.eq_false_iff.2 (fun e => by
  have := (rail_iff.1 (goodE_iff.1 e).2).2 k hk
  rw [h] at this
  cases this)
theorem upB_nextP {l : List Pt} {k : Nat} (h0 : 0 < k) (h : upB l k) (hk : k < l.length) (h1 : oneB l[k] = true) (h2 : fitB (l[k - 1]'(by omega)) l[k] = true) : upB l (k + 1) := by
  cases k with
  | zero => cases h0
  | succ j => exact upB_next h hk h1 h2
theorem good_no2P {l : List Pt} {k : Nat} (h0 : 0 < k) (hk : k < l.length) (h : fitB (l[k - 1]'(by omega)) l[k] = false) : goodE l = false := by
  cases k with
  | zero => cases h0
  | succ j => exact good_no2 hk h
theorem fit_goes {x y : Pt} (hx : oneB x = true) : fitB x y = (decide (x.stop ≤ y.off) && !goesB x y) := by
  have ox := oneB_iff.1 hx
  rw [Bool.eq_iff_iff, fitB_iff, Bool.and_eq_true, decide_eq_true_iff, Bool.not_eq_true', ← Bool.not_eq_true, goesB_iff]
  refine ⟨fun ⟨a, b⟩ => ⟨a, fun c => b ⟨c.1, c.2.1, c.2.2.resolve_left (by omega)⟩⟩, fun ⟨a, b⟩ => ⟨a, fun c => b ⟨c.1, c.2.1, .inr c.2.2⟩⟩⟩
end Go.Proofs.Ytfkgeefoknaldaa
