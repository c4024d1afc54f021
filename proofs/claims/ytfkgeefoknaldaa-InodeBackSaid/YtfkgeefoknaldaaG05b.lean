/- Plain facts: the bytes of a file as pieces, holes among them; what is left of them without the holes; that a plan is the pieces of what parts tell. No conditions but those that the statements name. -/
import Derived.Test.YtfkgeefoknaldaaG04b
set_option linter.unusedVariables false
namespace Go.Proofs.Ytfkgeefoknaldaa
set_option linter.unusedVariables false
set_option maxRecDepth 20000
open Go.RowKit
/-- does y begin where x ends, and its data too? (a hole has none) -/
def goesB (x y : Pt) : Bool := decide (x.stop = y.off ∧ x.addr = y.addr ∧ (x.addr = -1 ∨ x.src + x.len = y.src))
theorem goesB_iff {x y : Pt} : goesB x y = true ↔ x.stop = y.off ∧ x.addr = y.addr ∧ (x.addr = -1 ∨ x.src + x.len = y.src) := decide_eq_true_iff
def holeB (x : Pt) : Bool := decide (x.addr = -1)
def growP (y : Pt) : Pt := ⟨y.off, y.len + 1, y.addr, y.src⟩
def joinP (l : List Pt) (x : Pt) : List Pt :=
  match l.getLast? with
  | some y => if goesB y x = true then l.dropLast ++ [growP y] else l ++ [x]
  | none => l ++ [x]
theorem joinP_nil (x : Pt) : joinP [] x = [x] := rfl
theorem joinP_snoc (l : List Pt) (y x : Pt) : joinP (l ++ [y]) x = if goesB y x = true then l ++ [growP y] else (l ++ [y]) ++ [x] := by
  unfold joinP
  rw [List.getLast?_append, List.getLast?_singleton, Option.some_or]
  simp
/-- one byte as a piece -/
def pcE (b : ByteF) (i : Nat) : Pt := ⟨i, 1, (b i).1, (b i).2⟩
/-- n bytes from o on, as pieces -/
def pcsE (b : ByteF) (o : Nat) : Nat → List Pt
  | 0 => []
  | n + 1 => joinP (pcsE b o n) (pcE b (o + n))
/-- a hole is told in one way -/
def neatF (b : ByteF) : Prop := ∀ i, b i = (-1, 0) ∨ 0 ≤ (b i).1
theorem pcs_last (b : ByteF) (o n : Nat) : (pcsE b o n = [] ∧ n = 0) ∨ ∃ m y, pcsE b o n = m ++ [y] ∧ y.stop = ((o + n : Nat) : Int) ∧ 1 ≤ y.len ∧ ∀ x ∈ m, x.stop ≤ y.off := by
  induction n with
  | zero => exact .inl ⟨rfl, rfl⟩
  | succ n ih =>
    refine .inr ?_
    show ∃ m y, joinP (pcsE b o n) (pcE b (o + n)) = m ++ [y] ∧ _
    have hp : (pcE b (o + n)).stop = ((o + (n + 1) : Nat) : Int) := by show ((o + n : Nat) : Int) + 1 = _; omega
    have hq : (pcE b (o + n)).off = ((o + n : Nat) : Int) := rfl
    rcases ih with ⟨e, rfl⟩ | ⟨m, y, e, h1, h2, h3⟩
    · rw [e, joinP_nil]
      exact ⟨[], _, rfl, hp, Int.le_refl _, fun x hx => by cases hx⟩
    · rw [e, joinP_snoc]
      have ey : y.stop = y.off + y.len := rfl
      by_cases g : goesB y (pcE b (o + n)) = true
      · rw [if_pos g]
        exact ⟨m, _, rfl, by show y.off + (y.len + 1) = _; omega, by show 1 ≤ y.len + 1; omega, h3⟩
      · rw [if_neg g]
        refine ⟨m ++ [y], _, rfl, hp, Int.le_refl _, fun x hx => ?_⟩
        rw [hq]
        rcases List.mem_append.1 hx with hx | hx
        · have := h3 x hx
          omega
        · rw [List.mem_singleton.1 hx]
          omega
/-- all pieces but the holes -/
def solidE (l : List Pt) : List Pt := l.filter (fun x => !holeB x)
theorem solid_hole {l : List Pt} {x : Pt} (h : x.addr = -1) : solidE (l ++ [x]) = solidE l := by
  unfold solidE
  rw [List.filter_append, List.filter_cons_of_neg (by simp [holeB, h]), List.filter_nil, List.append_nil]
theorem solid_part {l : List Pt} {x : Pt} (h : ¬ x.addr = -1) : solidE (l ++ [x]) = solidE l ++ [x] := by
  unfold solidE
  rw [List.filter_append, List.filter_cons_of_pos (by simp [holeB, h]), List.filter_nil]
theorem pcs_gat {b : ByteF} (hb : neatF b) (n : Nat) : solidE (pcsE b 0 n) = gatE b n := by
  induction n with
  | zero => rfl
  | succ n ih =>
    show solidE (joinP (pcsE b 0 n) (pcE b (0 + n))) = if (b n).1 < 0 then gatE b n else joinE (gatE b n) ⟨n, 1, (b n).1, (b n).2⟩
    rw [Nat.zero_add]
    have hn : (b n).1 = -1 ∨ 0 ≤ (b n).1 := (hb n).imp (fun h => by rw [h]) id
    rcases pcs_last b 0 n with ⟨e, rfl⟩ | ⟨m, y, e, h1, h2, h3⟩
    · rw [e, joinP_nil]
      by_cases h : (b 0).1 = -1
      · rw [if_pos (by omega)]
        exact solid_hole (l := []) (x := pcE b 0) h
      · rw [if_neg (by omega)]
        exact solid_part (l := []) (x := pcE b 0) h
    · rw [e] at ih ⊢
      rw [joinP_snoc]
      have ey : y.stop = y.off + y.len := rfl
      by_cases g : goesB y (pcE b n) = true
      · rw [if_pos g]
        obtain ⟨g1, g2, g3⟩ := goesB_iff.1 g
        have g2' : y.addr = (b n).1 := g2
        by_cases h : y.addr = -1
        · rw [if_pos (by omega), ← ih, solid_hole h, solid_hole (x := growP y) h]
        · have g3' := g3.resolve_left h
          rw [if_neg (by omega), ← ih, solid_part h, solid_part (x := growP y) h, joinE_snoc, if_pos ⟨g1, g2, g3'⟩]
          rfl
      · rw [if_neg g]
        by_cases h : (b n).1 = -1
        · rw [if_pos (by omega), solid_hole (x := pcE b n) h, ih]
        · rw [if_neg (by omega), solid_part (x := pcE b n) h, ih]
          by_cases hy : y.addr = -1
          · rw [solid_hole hy] at ih
            rcases List.eq_nil_or_concat (gatE b n) with q | ⟨r, z, q⟩
            · rw [q]
              rfl
            · rw [List.concat_eq_append] at q
              have hz : z ∈ m := (List.mem_filter.1 (show z ∈ solidE m from by rw [ih, q]; simp)).1
              have hz3 := h3 z hz
              rw [q, joinE_snoc, if_neg (fun c => by have c1 : z.stop = (n : Int) := c.1; omega)]
              rfl
          · rw [solid_part hy] at ih
            rw [← ih, joinE_snoc, if_neg (fun c => g (goesB_iff.2 ⟨c.1, c.2.1, .inr c.2.2⟩))]
            rfl
theorem gat_congr {b c : ByteF} {n : Nat} (h : ∀ i, i < n → ((b i).1 < 0 ∧ (c i).1 < 0) ∨ b i = c i) : gatE b n = gatE c n := by
  induction n with
  | zero => rfl
  | succ n ih =>
    show (if (b n).1 < 0 then gatE b n else joinE (gatE b n) ⟨n, 1, (b n).1, (b n).2⟩) = if (c n).1 < 0 then gatE c n else joinE (gatE c n) ⟨n, 1, (c n).1, (c n).2⟩
    rw [ih (fun i hi => h i (by omega))]
    rcases h n (by omega) with ⟨h1, h2⟩ | e
    · rw [if_pos h1, if_pos h2]
    · rw [e]
theorem gat_more {b : ByteF} {n m : Nat} (hnm : n ≤ m) (h : ∀ i, n ≤ i → i < m → (b i).1 < 0) : gatE b m = gatE b n := by
  induction m with
  | zero => rw [show n = 0 by omega]
  | succ m ih =>
    by_cases e : n = m + 1
    · rw [e]
    · show (if (b m).1 < 0 then gatE b m else _) = _
      rw [if_pos (h m (by omega) (by omega))]
      exact ih (by omega) (fun i h1 h2 => h i h1 (by omega))
theorem pcs_congr {b c : ByteF} {o n : Nat} (h : ∀ i, o ≤ i → i < o + n → b i = c i) : pcsE b o n = pcsE c o n := by
  induction n with
  | zero => rfl
  | succ n ih =>
    show joinP (pcsE b o n) ⟨((o + n : Nat) : Int), 1, (b (o + n)).1, (b (o + n)).2⟩ = joinP (pcsE c o n) ⟨((o + n : Nat) : Int), 1, (c (o + n)).1, (c (o + n)).2⟩
    rw [ih (fun i h1 h2 => h i h1 (by omega)), h (o + n) (by omega) (by omega)]
/-- one behind the other, from o to e -/
def tileE : Int → List Pt → Int → Prop
  | o, [], e => o = e
  | o, x :: l, e => x.off = o ∧ 1 ≤ x.len ∧ tileE x.stop l e
theorem tile_snoc {l : List Pt} {x : Pt} {o e : Int} : tileE o (l ++ [x]) e ↔ tileE o l x.off ∧ 1 ≤ x.len ∧ x.stop = e := by
  induction l generalizing o with
  | nil =>
    show x.off = o ∧ 1 ≤ x.len ∧ x.stop = e ↔ o = x.off ∧ _
    exact ⟨fun ⟨a, b⟩ => ⟨a.symm, b⟩, fun ⟨a, b⟩ => ⟨a.symm, b⟩⟩
  | cons y l ih =>
    show y.off = o ∧ 1 ≤ y.len ∧ tileE y.stop (l ++ [x]) e ↔ (y.off = o ∧ 1 ≤ y.len ∧ tileE y.stop l x.off) ∧ _
    rw [ih]
    exact ⟨fun ⟨a, b, c, d⟩ => ⟨⟨a, b, c⟩, d⟩, fun ⟨⟨a, b, c⟩, d⟩ => ⟨a, b, c, d⟩⟩
/-- a piece tells what the bytes tell -/
def saysP (b : ByteF) (x : Pt) : Prop := 0 ≤ x.off ∧ ∀ j : Nat, (j : Int) < x.len → (b (x.off.toNat + j)).1 = x.addr ∧ (0 ≤ x.addr → (b (x.off.toNat + j)).2 = x.src + j)
theorem pcs_tile (b : ByteF) (o n : Nat) : tileE o (pcsE b o n) ((o + n : Nat) : Int) ∧ ∀ x ∈ pcsE b o n, saysP b x := by
  induction n with
  | zero => exact ⟨rfl, fun x hx => by cases hx⟩
  | succ n ih =>
    show tileE o (joinP (pcsE b o n) (pcE b (o + n))) _ ∧ ∀ x ∈ joinP (pcsE b o n) (pcE b (o + n)), saysP b x
    obtain ⟨ih1, ih2⟩ := ih
    have hp : (pcE b (o + n)).stop = ((o + (n + 1) : Nat) : Int) := by show ((o + n : Nat) : Int) + 1 = _; omega
    have hs : saysP b (pcE b (o + n)) := by
      refine ⟨by show (0 : Int) ≤ ((o + n : Nat) : Int); omega, fun j hj => ?_⟩
      have hj' : (j : Int) < 1 := hj
      obtain rfl : j = 0 := by omega
      have e : (pcE b (o + n)).off.toNat + 0 = o + n := by show ((o + n : Nat) : Int).toNat + 0 = _; omega
      rw [e]
      exact ⟨rfl, fun _ => (Int.add_zero _).symm⟩
    rcases pcs_last b o n with ⟨e, rfl⟩ | ⟨m, y, e, h1, h2, h3⟩
    · rw [e, joinP_nil]
      refine ⟨⟨rfl, Int.le_refl _, hp⟩, fun x hx => ?_⟩
      rw [List.mem_singleton.1 hx]
      exact hs
    · rw [e] at ih1 ih2 ⊢
      rw [joinP_snoc]
      have ey : y.stop = y.off + y.len := rfl
      obtain ⟨t1, t2, t3⟩ := tile_snoc.1 ih1
      by_cases g : goesB y (pcE b (o + n)) = true
      · rw [if_pos g]
        obtain ⟨g1, g2, g3⟩ := goesB_iff.1 g
        have g2' : y.addr = (b (o + n)).1 := g2
        refine ⟨tile_snoc.2 ⟨t1, by show 1 ≤ y.len + 1; omega, by show y.off + (y.len + 1) = _; omega⟩, fun x hx => ?_⟩
        rcases List.mem_append.1 hx with hx | hx
        · exact ih2 x (List.mem_append_left _ hx)
        · rw [List.mem_singleton.1 hx]
          obtain ⟨s0, s1⟩ := ih2 y (by simp)
          refine ⟨s0, fun j hj => ?_⟩
          have hj' : (j : Int) < y.len + 1 := hj
          by_cases hjl : (j : Int) < y.len
          · exact s1 j hjl
          · have ej : y.off.toNat + j = o + n := by omega
            show (b (y.off.toNat + j)).1 = y.addr ∧ (0 ≤ y.addr → (b (y.off.toNat + j)).2 = y.src + j)
            rw [ej]
            refine ⟨g2'.symm, fun ha => ?_⟩
            have g4 : y.src + y.len = (b (o + n)).2 := g3.resolve_left (by omega)
            omega
      · rw [if_neg g]
        refine ⟨tile_snoc.2 ⟨?_, Int.le_refl _, hp⟩, fun x hx => ?_⟩
        · exact ih1
        · rcases List.mem_append.1 hx with hx | hx
          · exact ih2 x hx
          · rw [List.mem_singleton.1 hx]
            exact hs
/-- bytes that go on, where none goes on from what is ahead of them: one piece -/
theorem pcs_run {b : ByteF} {o k : Nat} {a s : Int} (t : Nat) (hj : ∀ m y, pcsE b o k = m ++ [y] → goesB y ⟨((o + k : Nat) : Int), 1, a, s⟩ = false) (hb : ∀ j : Nat, j ≤ t → b (o + k + j) = (a, s + (if a = -1 then 0 else (j : Int)))) :
    pcsE b o (k + (t + 1)) = pcsE b o k ++ [⟨((o + k : Nat) : Int), (t : Int) + 1, a, s⟩] := by
  induction t with
  | zero =>
    show joinP (pcsE b o k) (pcE b (o + k)) = _
    have e : pcE b (o + k) = ⟨((o + k : Nat) : Int), 1, a, s⟩ := by
      have := hb 0 (Nat.le_refl _)
      rw [Nat.add_zero] at this
      unfold pcE
      rw [this]
      refine Pt.ext4 rfl rfl rfl ?_
      show s + (if a = -1 then (0 : Int) else ((0 : Nat) : Int)) = s
      split <;> simp
    rw [e]
    rcases List.eq_nil_or_concat (pcsE b o k) with q | ⟨r, z, q⟩
    · rw [q, joinP_nil]
      rfl
    · rw [List.concat_eq_append] at q
      have := hj r z q
      rw [q, joinP_snoc, if_neg (by rw [this]; decide)]
      rfl
  | succ t ih =>
    have h1 := ih (fun j hjt => hb j (by omega))
    show joinP (pcsE b o (k + (t + 1))) (pcE b (o + (k + (t + 1)))) = _
    rw [h1, joinP_snoc]
    have hbt := hb (t + 1) (Nat.le_refl _)
    have e : b (o + (k + (t + 1))) = (a, s + (if a = -1 then 0 else ((t + 1 : Nat) : Int))) := by rw [← hbt, show o + (k + (t + 1)) = o + k + (t + 1) by omega]
    rw [if_pos (goesB_iff.2 ⟨by show ((o + k : Nat) : Int) + ((t : Int) + 1) = ((o + (k + (t + 1)) : Nat) : Int); omega, by show a = (b (o + (k + (t + 1)))).1; rw [e], ?_⟩)]
    · congr 1
    · by_cases ha : a = -1
      · exact .inl ha
      · refine .inr ?_
        show s + ((t : Int) + 1) = (b (o + (k + (t + 1)))).2
        rw [e]
        show _ = s + (if a = -1 then (0 : Int) else _)
        rw [if_neg ha]
        omega
/-- the plan of parts: what is behind at_ -/
def planL (o e : Int) : List Pt → Int → List Pt
  | [], at_ => if at_ < e then [⟨at_, e - at_, -1, 0⟩] else []
  | x :: l, at_ => if min x.stop e ≤ max x.off o then planL o e l at_
      else (if at_ < max x.off o then [⟨at_, max x.off o - at_, -1, 0⟩] else []) ++ ⟨max x.off o, min x.stop e - max x.off o, x.addr, x.src + max x.off o - x.off⟩ :: planL o e l (min x.stop e)
theorem plan_is {b : ByteF} {o e : Nat} {l : List Pt} (hl : railB l = true) : ∀ (at_ : Nat), o ≤ at_ → at_ ≤ e → (∀ i : Nat, at_ ≤ i → i < e → b i = spF l i) → (at_ = o ∨ ∀ x ∈ l, (at_ : Int) ≤ x.off) →
    (∀ m y, pcsE b o (at_ - o) = m ++ [y] → y.addr ≠ -1 ∧ ∀ x ∈ l, x.off = (at_ : Int) → ¬ (y.addr = x.addr ∧ y.src + y.len = x.src)) → pcsE b o (e - o) = pcsE b o (at_ - o) ++ planL o e l at_ := by
  induction l with
  | nil =>
    intro at_ h1 h2 hb _ h4
    show _ = _ ++ (if (at_ : Int) < e then [(⟨at_, e - at_, -1, 0⟩ : Pt)] else [])
    by_cases he : at_ < e
    · rw [if_pos (by omega)]
      have := pcs_run (b := b) (o := o) (k := at_ - o) (a := -1) (s := 0) (e - at_ - 1) (fun m y hy => Bool.eq_false_iff.2 (fun g => (h4 m y hy).1 (goesB_iff.1 g).2.1)) (fun j hj => by
        rw [hb _ (by omega) (by omega), spF_none rfl, if_pos rfl]
        rfl)
      rw [show at_ - o + (e - at_ - 1 + 1) = e - o by omega] at this
      rw [this]
      congr 3
      · omega
      · omega
    · rw [if_neg (by omega), List.append_nil, show at_ = e by omega]
  | cons x l ih =>
    intro at_ h1 h2 hb h3 h4
    obtain ⟨o1, r1, f1⟩ := railB_cons hl
    have ox := oneB_iff.1 o1
    have bx := railB_behind hl
    have ex : x.stop = x.off + x.len := rfl
    show _ = _ ++ (if min x.stop (e : Int) ≤ max x.off (o : Int) then planL o e l at_ else (if (at_ : Int) < max x.off (o : Int) then [(⟨at_, max x.off o - at_, -1, 0⟩ : Pt)] else []) ++ (⟨max x.off o, min x.stop e - max x.off o, x.addr, x.src + max x.off o - x.off⟩ : Pt) :: planL o e l (min x.stop e))
    by_cases hs : min x.stop (e : Int) ≤ max x.off (o : Int)
    · rw [if_pos hs]
      refine ih r1 at_ h1 h2 (fun i hi hie => ?_) (h3.imp id (fun h y hy => h y (List.mem_cons_of_mem _ hy))) (fun m y hy => ⟨(h4 m y hy).1, fun z hz => (h4 m y hy).2 z (List.mem_cons_of_mem _ hz)⟩)
      rw [hb i hi hie]
      unfold spF
      rw [atE_no (by omega)]
    · rw [if_neg hs]
      obtain ⟨F, hF⟩ : ∃ F : Nat, max x.off (o : Int) = F := ⟨(max x.off (o : Int)).toNat, by omega⟩
      obtain ⟨T, hT⟩ : ∃ T : Nat, min x.stop (e : Int) = T := ⟨(min x.stop (e : Int)).toNat, by omega⟩
      rw [hF, hT]
      rw [hF, hT] at hs
      have hx0 := h3.imp id (fun h => h x List.mem_cons_self)
      have aF : at_ ≤ F := by omega
      -- the hole ahead of it
      have A : pcsE b o (F - o) = pcsE b o (at_ - o) ++ (if (at_ : Int) < F then [(⟨at_, F - at_, -1, 0⟩ : Pt)] else []) := by
        by_cases he : at_ < F
        · rw [if_pos (by omega)]
          have := pcs_run (b := b) (o := o) (k := at_ - o) (a := -1) (s := 0) (F - at_ - 1) (fun m y hy => Bool.eq_false_iff.2 (fun g => (h4 m y hy).1 (goesB_iff.1 g).2.1)) (fun j hj => by
            rw [hb _ (by omega) (by omega), spF_none (atE_ahead (fun z hz => by
              rcases List.mem_cons.1 hz with rfl | hz
              · omega
              · have := bx z hz
                omega)), if_pos rfl]
            rfl)
          rw [show at_ - o + (F - at_ - 1 + 1) = F - o by omega] at this
          rw [this]
          congr 3
          · omega
          · omega
        · rw [if_neg (by omega), List.append_nil, show at_ = F by omega]
      have B : pcsE b o (T - o) = pcsE b o (F - o) ++ [⟨F, (T : Int) - F, x.addr, x.src + F - x.off⟩] := by
        have := pcs_run (b := b) (o := o) (k := F - o) (a := x.addr) (s := x.src + F - x.off) (T - F - 1) (fun m y hy => Bool.eq_false_iff.2 (fun g => ?_)) (fun j hj => by
          rw [hb _ (by omega) (by omega), spF_some (atE_yes (x := x) (by omega)), if_neg (by omega)]
          congr 1
          omega)
        · rw [show F - o + (T - F - 1 + 1) = T - o by omega] at this
          rw [this]
          congr 3
          · omega
          · omega
        · obtain ⟨g1, g2, g3⟩ := goesB_iff.1 g
          have g2' : y.addr = x.addr := g2
          rw [A] at hy
          by_cases he : at_ < F
          · rw [if_pos (by omega)] at hy
            have hy2 := List.append_inj' hy rfl
            have : y = ⟨at_, F - at_, -1, 0⟩ := (List.cons.inj hy2.2).1.symm
            rw [this] at g2'
            have g2'' : (-1 : Int) = x.addr := g2'
            omega
          · rw [if_neg (by omega), List.append_nil] at hy
            have hy4 := h4 m y hy
            have g3' : y.src + y.len = x.src + F - x.off := g3.resolve_left hy4.1
            have hne : at_ ≠ o := by
              rintro rfl
              rw [Nat.sub_self] at hy
              exact absurd hy (by simp [pcsE])
            have hxa := hx0.resolve_left hne
            exact hy4.2 x List.mem_cons_self (by omega) ⟨g2', by omega⟩
      have C := ih r1 T (by omega) (by omega) (fun i hi hie => by
        rw [hb i (by omega) hie]
        unfold spF
        rw [atE_no (by omega)]) (.inr (fun z hz => by have := bx z hz; omega)) (fun m y hy => by
        rw [B] at hy
        have hy2 := List.append_inj' hy rfl
        have e2 : y = ⟨F, (T : Int) - F, x.addr, x.src + F - x.off⟩ := (List.cons.inj hy2.2).1.symm
        refine ⟨by rw [e2]; show x.addr ≠ -1; omega, fun z hz hzT c => ?_⟩
        have hbz := bx z hz
        rw [e2] at c
        have c1 : x.addr = z.addr := c.1
        have c2 : x.src + F - x.off + ((T : Int) - F) = z.src := c.2
        cases l with
        | nil => cases hz
        | cons u q =>
          have fu := fitB_iff.1 (f1 u q rfl)
          rcases List.mem_cons.1 hz with rfl | hz2
          · exact fu.2 ⟨by omega, c1, by omega⟩
          · have := railB_behind r1 z hz2
            have ou := oneB_iff.1 (railB_cons r1).1
            have eu : u.stop = u.off + u.len := rfl
            omega)
      rw [C, B, A, List.append_assoc, List.append_assoc]
      rfl
theorem plan_pcs {l : List Pt} (hl : railB l = true) {b : ByteF} (o n : Nat) (hb : ∀ i : Nat, o ≤ i → i < o + n → b i = spF l i) : pcsE b o n = planL o ((o + n : Nat) : Int) l o := by
  have := plan_is hl o (Nat.le_refl _) (Nat.le_add_right o n) hb (.inl rfl) (fun m y h => by rw [Nat.sub_self] at h; exact absurd h (by simp [pcsE]))
  rwa [Nat.sub_self, show o + n - o = n by omega] at this
end Go.Proofs.Ytfkgeefoknaldaa
