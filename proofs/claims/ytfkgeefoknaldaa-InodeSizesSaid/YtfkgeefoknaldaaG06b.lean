/- Plain facts: parts laid one over the other; what is put, cut off, moved, as parts; where parts end. No conditions but those that the statements name. -/
import Derived.Test.YtfkgeefoknaldaaG05b
set_option linter.unusedVariables false
namespace Go.Proofs.Ytfkgeefoknaldaa
set_option linter.unusedVariables false
set_option maxRecDepth 20000
open Go.RowKit
/-- where each byte lies, in a map of bytes -/
abbrev MapF := Int → Option (Int × Int)
def layG (g : MapF) (x : Pt) : MapF := fun u => if x.off ≤ u ∧ u < x.off + x.len then some (x.addr, x.src + (u - x.off)) else g u
def laidE (l : List Pt) : MapF := l.foldl layG (fun _ => none)
theorem laidE_snoc (l : List Pt) (x : Pt) : laidE (l ++ [x]) = layG (laidE l) x := by
  unfold laidE
  rw [List.foldl_append]
  rfl
theorem laid_from {l : List Pt} (hl : railB l = true) (g : MapF) (u : Int) : l.foldl layG g u = (atE l u).or (g u) := by
  induction l generalizing g with
  | nil => rfl
  | cons x l ih =>
    obtain ⟨o1, r1, _⟩ := railB_cons hl
    have bx := railB_behind hl
    rw [List.foldl_cons, ih r1]
    unfold layG
    by_cases h : x.off ≤ u ∧ u < x.off + x.len
    · rw [if_pos h, atE_yes h, atE_ahead (fun y hy => by have := bx y hy; have e : x.stop = x.off + x.len := rfl; omega)]
      rfl
    · rw [if_neg h, atE_no h]
theorem laid_rail {l : List Pt} (hl : railB l = true) : laidE l = atE l := by
  funext u
  unfold laidE
  rw [laid_from hl, Option.or_none]
/-- from o on, below e -/
def clipG (o e : Int) (g : MapF) : MapF := fun u => if o ≤ u ∧ u < e then g u else none
/-- while a part is laid: below at_ -/
def partG (o e : Int) (g : MapF) (x : Pt) (at_ : Int) : MapF := fun u => if max x.off o ≤ u ∧ u < at_ then some (x.addr, x.src + (u - x.off)) else clipG o e g u
/-- one byte is set -/
def setG (g : MapF) (u : Int) (v : Int × Int) : MapF := fun i => if i = u then some v else g i
theorem part_zero (o e : Int) (g : MapF) (x : Pt) : partG o e g x (max x.off o) = clipG o e g := by
  funext u
  exact if_neg (by omega)
theorem part_next (o e : Int) (g : MapF) (x : Pt) {at_ : Int} (h : max x.off o ≤ at_) : setG (partG o e g x at_) at_ (x.addr, x.src + at_ - x.off) = partG o e g x (at_ + 1) := by
  funext u
  unfold setG partG
  by_cases hu : u = at_
  · subst hu
    rw [if_pos rfl, if_pos ⟨h, by omega⟩]
    congr 2
    omega
  · rw [if_neg hu]
    by_cases h2 : max x.off o ≤ u ∧ u < at_
    · rw [if_pos h2, if_pos ⟨h2.1, by omega⟩]
    · rw [if_neg h2, if_neg (fun q => h2 ⟨q.1, by omega⟩)]
theorem part_done {o e : Int} {g : MapF} {x : Pt} {at_ : Int} (h : at_ = max (max x.off o) (min x.stop e)) : partG o e g x at_ = clipG o e (layG g x) := by
  funext u
  unfold partG clipG layG
  have ex : x.stop = x.off + x.len := rfl
  by_cases h1 : max x.off o ≤ u ∧ u < at_
  · rw [if_pos h1, if_pos (by omega), if_pos (by omega)]
  · rw [if_neg h1]
    by_cases h2 : o ≤ u ∧ u < e
    · rw [if_pos h2, if_pos h2, if_neg (by omega)]
    · rw [if_neg h2, if_neg h2]
def bytG (g : MapF) : ByteF := fun i => match g i with | some x => x | none => (-1, 0)
theorem bytG_at (l : List Pt) : bytG (atE l) = spF l := rfl
/-- no address below 0 -/
def soundG (g : MapF) : Prop := ∀ u a f, g u = some (a, f) → 0 ≤ a ∧ a < 16384 ∧ 0 ≤ f ∧ f < 1024
theorem soundG.neat {g : MapF} (h : soundG g) : neatF (bytG g) := fun i => by
  unfold bytG
  cases e : g i with
  | none => exact .inl rfl
  | some x =>
    obtain ⟨a, f⟩ := x
    exact .inr (h _ _ _ e).1
theorem soundG.clip {g : MapF} (h : soundG g) (o e : Int) : soundG (clipG o e g) := fun u a f q => by
  unfold clipG at q
  split at q
  · exact h u a f q
  · cases q
theorem rail_sound {l : List Pt} (hl : railB l = true) : soundG (atE l) := fun u a f q => (rail_at hl q).2
theorem lay_sound {g : MapF} (h : soundG g) {x : Pt} (hx : oneB x = true) : soundG (layG g x) := fun u a f q => by
  unfold layG at q
  have ox := oneB_iff.1 hx
  split at q
  · cases q
    omega
  · exact h u a f q
/-- where the last one ends -/
def endL (l : List Pt) : Int := match l.getLast? with | some x => x.stop | none => 0
theorem endL_nil : endL [] = 0 := rfl
theorem endL_snoc (l : List Pt) (x : Pt) : endL (l ++ [x]) = x.stop := by
  unfold endL
  rw [List.getLast?_append, List.getLast?_singleton, Option.some_or]
theorem rail_before {l : List Pt} {x : Pt} (h : railB (l ++ [x]) = true) : ∀ y ∈ l, y.stop ≤ x.off := by
  induction l with
  | nil => intro y hy; cases hy
  | cons z l ih =>
    rw [List.cons_append] at h
    obtain ⟨_, r1, _⟩ := railB_cons h
    intro y hy
    rcases List.mem_cons.1 hy with rfl | hy
    · exact railB_behind h x (by simp)
    · exact ih r1 y hy
/-- nothing lies behind the end; the byte ahead of the end is no hole -/
theorem rail_end {l : List Pt} (hl : railB l = true) : (0 ≤ endL l ∧ endL l ≤ 8192) ∧ (∀ i, endL l ≤ i → atE l i = none) ∧ (0 < endL l → atE l (endL l - 1) ≠ none) := by
  rcases List.eq_nil_or_concat l with rfl | ⟨m, x, e⟩
  · exact ⟨⟨Int.le_refl _, by decide⟩, fun i _ => rfl, fun h => absurd h (by decide)⟩
  · rw [List.concat_eq_append] at e
    subst e
    rw [endL_snoc]
    have ox := oneB_iff.1 (rail_one hl x (by simp))
    have ex : x.stop = x.off + x.len := rfl
    have hb := rail_before hl
    refine ⟨by omega, fun i hi => atE_stop (fun y hy => ?_), fun _ q => ?_⟩
    · rcases List.mem_append.1 hy with hy | hy
      · have := hb y hy
        omega
      · rw [List.mem_singleton.1 hy]
        exact hi
    · rw [atE_append, atE_one, if_pos (by omega)] at q
      cases h : atE m (x.stop - 1) <;> rw [h] at q <;> cases q
/-- lists with the same holes end where the other one does -/
theorem end_same {l m : List Pt} (hl : railB l = true) (hm : railB m = true) (h : ∀ i, atE l i = none ↔ atE m i = none) : endL l = endL m := by
  obtain ⟨a1, a2, a3⟩ := rail_end hl
  obtain ⟨b1, b2, b3⟩ := rail_end hm
  rcases Int.lt_trichotomy (endL l) (endL m) with g | g | g
  · exact absurd ((h _).1 (a2 (endL m - 1) (by omega))) (b3 (by omega))
  · exact g
  · exact absurd ((h _).2 (b2 (endL l - 1) (by omega))) (a3 (by omega))
/-- what lies below a size, part by part -/
def cutL (s : Int) : List Pt → List Pt
  | [] => []
  | x :: l => if x.off < s then ⟨x.off, min x.len (s - x.off), x.addr, x.src⟩ :: cutL s l else []
theorem cutL_len (s : Int) (l : List Pt) : (cutL s l).length ≤ l.length := by
  induction l with
  | nil => exact Nat.le_refl _
  | cons x l ih =>
    unfold cutL
    split
    · rw [List.length_cons, List.length_cons]
      omega
    · exact Nat.zero_le _
theorem cutL_ok (s : Int) {l : List Pt} (hl : railB l = true) : railB (cutL s l) = true ∧ ∀ i, atE (cutL s l) i = if i < s then atE l i else none := by
  induction l with
  | nil => exact ⟨rfl, fun i => by split <;> rfl⟩
  | cons x l ih =>
    obtain ⟨o1, r1, f1⟩ := railB_cons hl
    obtain ⟨h1, h2⟩ := ih r1
    have ox := oneB_iff.1 o1
    have bx := railB_behind hl
    have ex : x.stop = x.off + x.len := rfl
    unfold cutL
    by_cases hs : x.off < s
    · rw [if_pos hs]
      refine ⟨railB_of (oneB_iff.2 ⟨ox.1, by show 1 ≤ min x.len (s - x.off); omega, by show x.off + min x.len (s - x.off) ≤ 8192; omega, ox.2.2.2.1, ox.2.2.2.2.1, ox.2.2.2.2.2.1, by show x.src + min x.len (s - x.off) ≤ 1024; omega⟩) h1 (fun y m e => ?_), fun i => ?_⟩
      · cases l with
        | nil => cases e
        | cons z l =>
          have fz := fitB_iff.1 (f1 z l rfl)
          unfold cutL at e
          split at e
          · next hz =>
            obtain ⟨rfl, _⟩ := List.cons.inj e
            have e1 : min x.len (s - x.off) = x.len := by omega
            refine fitB_iff.2 ⟨by show x.off + min x.len (s - x.off) ≤ z.off; omega, fun c => fz.2 ⟨?_, c.2.1, ?_⟩⟩
            · have c1 : x.off + min x.len (s - x.off) = z.off := c.1
              omega
            · have c2 : x.src + min x.len (s - x.off) = z.src := c.2.2
              omega
          · cases e
      · by_cases hi : x.off ≤ i ∧ i < x.off + min x.len (s - x.off)
        · rw [atE_yes (x := ⟨x.off, min x.len (s - x.off), x.addr, x.src⟩) hi, if_pos (by omega), atE_yes (x := x) (by omega)]
        · rw [atE_no (x := ⟨x.off, min x.len (s - x.off), x.addr, x.src⟩) hi, h2]
          by_cases hi2 : i < s
          · rw [if_pos hi2, if_pos hi2, atE_no (x := x) (by omega)]
          · rw [if_neg hi2, if_neg hi2]
    · rw [if_neg hs]
      refine ⟨rfl, fun i => ?_⟩
      by_cases hi : i < s
      · rw [if_pos hi]
        exact (atE_ahead (fun y hy => by
          rcases List.mem_cons.1 hy with rfl | hy
          · omega
          · have := bx y hy
            omega)).symm
      · rw [if_neg hi]
        rfl
theorem cut_is {l : List Pt} (hl : railB l = true) (s : Int) : gatE (cutF (spF l) s) 8192 = cutL s l :=
  gat_is (cutF_sound (spF_sound hl _) s) (cutL_ok s hl).1 (fun i => by rw [(cutL_ok s hl).2, tell_cut, spF_tell hl])
/-- too many? -/
def fewE (l : List Pt) : List Pt × Int := if l.length ≤ 64 then (l, 0) else ([], 3)
def putE (l : List Pt) (x : Pt) : List Pt × Int := if goodE l = true then (if oneB x = true then fewE (gatE (putF (spF l) x) 8192) else ([], 1)) else ([], 11)
def cutE (l : List Pt) (s : Int) : List Pt := if goodE l = true then gatE (cutF (spF l) (max s 0)) 8192 else []
def endE (l : List Pt) : Int := if goodE l = true then endL l else 0
def planB (off n : Int) : Bool := decide (0 ≤ off ∧ off ≤ 8192 ∧ 1 ≤ n ∧ n ≤ 8192 ∧ off + n ≤ 8192)
def planE (l : List Pt) (off n : Int) : List Pt := if goodE l = true ∧ planB off n = true then planL off (off + n) l off else []
/-- a move: whose data, from where on, how many bytes, to where -/
structure Mv where
  addr : Int
  src : Int
  len : Int
  at_ : Int
def mayB (m : Mv) (to : Int) : Bool := decide (0 ≤ m.addr ∧ m.addr < 16384 ∧ 0 ≤ m.src ∧ 0 ≤ m.at_ ∧ 1 ≤ m.len ∧ m.src + m.len ≤ 1024 ∧ m.at_ + m.len ≤ 1024 ∧ 0 ≤ to ∧ to < 16384)
theorem mayB_iff {m : Mv} {to : Int} : mayB m to = true ↔ 0 ≤ m.addr ∧ m.addr < 16384 ∧ 0 ≤ m.src ∧ 0 ≤ m.at_ ∧ 1 ≤ m.len ∧ m.src + m.len ≤ 1024 ∧ m.at_ + m.len ≤ 1024 ∧ 0 ≤ to ∧ to < 16384 := decide_eq_true_iff
theorem planB_iff {off n : Int} : planB off n = true ↔ 0 ≤ off ∧ off ≤ 8192 ∧ 1 ≤ n ∧ n ≤ 8192 ∧ off + n ≤ 8192 := decide_eq_true_iff
def mvF (m : Mv) (to : Int) (b : ByteF) : ByteF := movF b m.addr m.src m.at_ m.len to
def moveE (l : List Pt) (m : Mv) (to : Int) : List Pt × Int := if goodE l = true then (if mayB m to = true then fewE (gatE (mvF m to (spF l)) 8192) else ([], 1)) else ([], 11)
theorem goodE_iff {l : List Pt} : goodE l = true ↔ l.length ≤ 64 ∧ railB l = true := by
  unfold goodE
  rw [Bool.and_eq_true, decide_eq_true_iff]
/-- one byte is moved -/
def mv1 (m : Mv) (to : Int) (x : Int × Int) : Int × Int := if x.1 = m.addr ∧ 0 ≤ x.2 - m.src ∧ x.2 - m.src < m.len then (to, m.at_ + (x.2 - m.src)) else x
/-- while bytes are moved: below at_ -/
def movG (m : Mv) (to : Int) (g : MapF) (at_ : Int) : MapF := fun u => if 0 ≤ u ∧ u < at_ then (g u).map (mv1 m to) else g u
theorem movG_zero (m : Mv) (to : Int) (g : MapF) : movG m to g 0 = g := by
  funext u
  exact if_neg (by omega)
theorem movG_same {m : Mv} {to : Int} {g : MapF} {k : Int} (hk : 0 ≤ k) (h : (g k).map (mv1 m to) = g k) : movG m to g (k + 1) = movG m to g k := by
  funext u
  unfold movG
  by_cases hu : u = k
  · subst hu
    rw [if_pos (by omega), if_neg (by omega), h]
  · by_cases h2 : 0 ≤ u ∧ u < k
    · rw [if_pos h2, if_pos ⟨h2.1, by omega⟩]
    · rw [if_neg h2, if_neg (fun q => h2 ⟨q.1, by omega⟩)]
theorem movG_set {m : Mv} {to : Int} {g : MapF} {k a f : Int} (hk : 0 ≤ k) (h : g k = some (a, f)) : setG (movG m to g k) k (mv1 m to (a, f)) = movG m to g (k + 1) := by
  funext u
  unfold setG movG
  by_cases hu : u = k
  · subst hu
    rw [if_pos rfl, if_pos (by omega), h]
    rfl
  · rw [if_neg hu]
    by_cases h2 : 0 ≤ u ∧ u < k
    · rw [if_pos h2, if_pos ⟨h2.1, by omega⟩]
    · rw [if_neg h2, if_neg (fun q => h2 ⟨q.1, by omega⟩)]
theorem mv1_sound {m : Mv} {to : Int} (hm : mayB m to = true) {a f : Int} (h : 0 ≤ a ∧ a < 16384 ∧ 0 ≤ f ∧ f < 1024) : 0 ≤ (mv1 m to (a, f)).1 ∧ (mv1 m to (a, f)).1 < 16384 ∧ 0 ≤ (mv1 m to (a, f)).2 ∧ (mv1 m to (a, f)).2 < 1024 := by
  have hm' := mayB_iff.1 hm
  unfold mv1
  split
  · next c =>
    obtain ⟨_, c2, c3⟩ := c
    have c2' : 0 ≤ f - m.src := c2
    have c3' : f - m.src < m.len := c3
    exact ⟨hm'.2.2.2.2.2.2.2.1, hm'.2.2.2.2.2.2.2.2, by show 0 ≤ m.at_ + (f - m.src); omega, by show m.at_ + (f - m.src) < 1024; omega⟩
  · exact h
/-- what is left of the pieces of bytes that are holes from n on is what is gathered of all -/
theorem parts_is {g : MapF} (hg : soundG g) {b : ByteF} {n : Nat} (hn : n ≤ 8192) (h : ∀ i, i < 8192 → ((b i).1 < 0 ∧ (i < n → (bytG g i).1 < 0)) ∨ (i < n ∧ b i = bytG g i)) : solidE (pcsE (bytG g) 0 n) = gatE b 8192 := by
  rw [pcs_gat hg.neat, gat_more (b := b) hn (fun i h1 h2 => ((h i h2).resolve_right (fun q => by omega)).1)]
  refine gat_congr (fun i hi => ?_)
  rcases h i (by omega) with ⟨h1, h2⟩ | ⟨_, h1⟩
  · exact .inl ⟨h2 hi, h1⟩
  · exact .inr h1.symm
theorem clip_in {o e : Int} {g : MapF} {i : Nat} (h : o ≤ (i : Int) ∧ (i : Int) < e) : bytG (clipG o e g) i = bytG g i := by
  unfold bytG clipG
  rw [if_pos h]
theorem put_parts {l : List Pt} (hl : railB l = true) {x : Pt} (hx : oneB x = true) {n : Nat} (hn : (n : Int) = max (endL l) x.stop) :
    solidE (pcsE (bytG (clipG 0 8192 (laidE (l ++ [x])))) 0 n) = gatE (putF (spF l) x) 8192 := by
  have hg : soundG (laidE (l ++ [x])) := by
    rw [laidE_snoc, laid_rail hl]
    exact lay_sound (rail_sound hl) hx
  obtain ⟨e1, e2, _⟩ := rail_end hl
  have ox := oneB_iff.1 hx
  have ex : x.stop = x.off + x.len := rfl
  refine parts_is (hg.clip 0 8192) (by omega) (fun i hi => ?_)
  have hb : bytG (clipG 0 8192 (laidE (l ++ [x]))) i = putF (spF l) x i := by
    rw [clip_in (by omega), laidE_snoc, laid_rail hl]
    unfold bytG layG putF
    by_cases h : x.off ≤ (i : Int) ∧ (i : Int) < x.off + x.len
    · rw [if_pos h, if_pos h]
    · rw [if_neg h, if_neg h]
      rfl
  by_cases h : i < n
  · exact .inr ⟨h, hb.symm⟩
  · refine .inl ⟨?_, fun q => absurd q h⟩
    unfold putF
    rw [if_neg (by omega), spF_none (e2 i (by omega))]
    decide
theorem cut_parts {l : List Pt} (hl : railB l = true) (s : Int) {n : Nat} (hn : n = (min (endL l) s).toNat) :
    solidE (pcsE (bytG (clipG 0 s (laidE l))) 0 n) = gatE (cutF (spF l) (max s 0)) 8192 := by
  obtain ⟨e1, e2, _⟩ := rail_end hl
  rw [laid_rail hl]
  refine parts_is ((rail_sound hl).clip 0 s) (by omega) (fun i hi => ?_)
  by_cases h : i < n
  · refine .inr ⟨h, ?_⟩
    rw [clip_in (by omega)]
    unfold cutF
    rw [if_neg (by omega)]
    rfl
  · refine .inl ⟨?_, fun q => absurd q h⟩
    unfold cutF
    by_cases hs : max s 0 ≤ (i : Int)
    · rw [if_pos hs]
      show (-1 : Int) < 0
      decide
    · rw [if_neg hs, spF_none (e2 i (by omega))]
      decide
theorem mov_parts {l : List Pt} (hl : railB l = true) {m : Mv} {to : Int} (hm : mayB m to = true) {n : Nat} (hn : (n : Int) = endL l) :
    solidE (pcsE (bytG (movG m to (clipG 0 8192 (laidE l)) n)) 0 n) = gatE (mvF m to (spF l)) 8192 := by
  obtain ⟨e1, e2, _⟩ := rail_end hl
  rw [laid_rail hl]
  have hs : soundG (movG m to (clipG 0 8192 (atE l)) n) := fun u a f q => by
    unfold movG at q
    split at q
    · cases e : clipG 0 8192 (atE l) u with
      | none => rw [e] at q; cases q
      | some x =>
        obtain ⟨a0, f0⟩ := x
        rw [e] at q
        have h1 := mv1_sound hm ((rail_sound hl).clip 0 8192 u a0 f0 e)
        have h2 : mv1 m to (a0, f0) = (a, f) := Option.some.inj q
        rw [h2] at h1
        exact h1
    · exact (rail_sound hl).clip 0 8192 u a f q
  refine parts_is hs (by omega) (fun i hi => ?_)
  have hm' := mayB_iff.1 hm
  by_cases h : i < n
  · have hb : bytG (movG m to (clipG 0 8192 (atE l)) n) i = match atE l i with | some x => mv1 m to x | none => (-1, 0) := by
      unfold bytG movG clipG
      rw [if_pos (by omega), if_pos (by omega)]
      cases atE l i <;> rfl
    cases e : atE l i with
    | none =>
      refine .inl ⟨?_, fun _ => ?_⟩
      · unfold mvF movF
        rw [spF_none e, if_neg (fun c => by have c1 : (-1 : Int) = m.addr := c.1; omega)]
        decide
      · rw [hb, e]
        show (-1 : Int) < 0
        decide
    | some x =>
      refine .inr ⟨h, ?_⟩
      rw [hb, e]
      unfold mvF movF
      rw [spF_some e]
      rfl
  · refine .inl ⟨?_, fun q => absurd q h⟩
    unfold mvF movF
    rw [spF_none (e2 i (by omega)), if_neg (fun c => by have c1 : (-1 : Int) = m.addr := c.1; omega)]
    decide
/-- what is moved is read as it was -/
theorem mov_tell {l : List Pt} (hl : railB l = true) {m : Mv} {to : Int} (hm : mayB m to = true) : railB (gatE (mvF m to (spF l)) 8192) = true ∧ ∀ i, atE (gatE (mvF m to (spF l)) 8192) i = (atE l i).map (mv1 m to) := by
  have hm' := mayB_iff.1 hm
  have h := gatE_all (movF_sound (ad := m.addr) (fr := m.src) (at_ := m.at_) (ln := m.len) (to := to) (spF_sound hl 8192) hm'.2.2.2.2.2.2.2.2 hm'.2.2.2.1 hm'.2.2.2.2.2.2.1) (Nat.le_refl 8192)
  refine ⟨h.rail, fun i => (h.tell i).trans ?_⟩
  rw [tell_mov hm'.2.2.2.2.2.2.2.1 hm'.1, spF_tell hl]
  rfl
theorem mov_end {l : List Pt} (hl : railB l = true) {m : Mv} {to : Int} (hm : mayB m to = true) : endL (gatE (mvF m to (spF l)) 8192) = endL l :=
  end_same (mov_tell hl hm).1 hl (fun i => by rw [(mov_tell hl hm).2]; cases atE l i <;> simp)
theorem put_tell {l : List Pt} (hl : railB l = true) {x : Pt} (hx : oneB x = true) : railB (gatE (putF (spF l) x) 8192) = true ∧ ∀ i, atE (gatE (putF (spF l) x) 8192) i = if x.off ≤ i ∧ i < x.off + x.len then some (x.addr, x.src + (i - x.off)) else atE l i := by
  have h := gatE_all (putF_sound (spF_sound hl 8192) hx) (Nat.le_refl 8192)
  exact ⟨h.rail, fun i => by rw [h.tell, tell_put hx, spF_tell hl]⟩
end Go.Proofs.Ytfkgeefoknaldaa
