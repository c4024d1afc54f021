/- Questions to a hand that are answered with chains, or bring some; the run of a tail that finds its epoch by way of the layout. Conditions: the program's functions return what HandSays says. -/
import Derived.Test.YtchhmfdalghgcaaGreatG31a
set_option linter.unusedVariables false
namespace Go.Proofs.YtchhmfdalghgcaaGreat
set_option linter.unusedVariables false
open Go.RowKit
set_option maxRecDepth 20000
/-- the layout that is to come, the change, the crash, the start -/
def mvL : List (List Int) := [[1, 5]]
def mv0 : Hd := ⟨newN 0 twT 9, []⟩
def akC : Ak := ⟨10, 0, 0, 0, 0, 0, ⟨#[]⟩, 1, mvL, none, 0⟩
def mv1 : Hd := mv0.asked akC 0
def mv2 : Hd := ⟨mv1.n.putO ⟨mv1.n.o.epoch, mv1.n.o.tail, false⟩, mv1.held⟩
def mv3 (n : Int) : Hd := mv2.asked (akN 8 0 1 n ⟨#[]⟩) 0
theorem mv_used : mv0.n.l.used.length ≤ 100000 ∧ mv1.n.l.used.length ≤ 100000 ∧ mv2.n.l.used.length ≤ 100000 := by decide +kernel
theorem mv2_o : mv2.n.o = ⟨0, 0, false⟩ := rfl
theorem mv2_l : mv2.n.l.ep = 1 ∧ mv2.n.l.L = mvL := by
  have h : mv2.n.l.ep = 1 ∧ mv2.n.l.L = [[1, 5]] := by decide +kernel
  exact h
theorem asked0T (h : Hd) (k : Ak) : h.asked k 0 = ⟨h.n.done k, h.held⟩ := if_pos (.inl rfl)
theorem heard0T (h : Hd) (k : Ak) : h.heard k 0 = h.n.ans k := if_pos rfl
theorem mv3_is {n : Int} (hn : 0 ≤ n ∧ n ≤ 16384) : (mv3 n).n.o = ⟨1, n, true⟩ ∧ (mv3 n).n.l = mv2.n.l ∧ (mv3 n).n.l.used.length ≤ 100000 := by
  have e : (mv3 n).n = mv2.n.putO ⟨1, n, true⟩ := by
    unfold mv3
    rw [asked0T]
    show mv2.n.done (akN 8 0 1 n ⟨#[]⟩) = _
    unfold Nd.done
    rw [if_neg (show ¬ (1 ≤ (akN 8 0 1 n ⟨#[]⟩).kind ∧ (akN 8 0 1 n ⟨#[]⟩).kind ≤ 5) from fun h => absurd h.2 (show ¬ (8 : Int) ≤ 5 by decide)), if_pos (show 6 ≤ (akN 8 0 1 n ⟨#[]⟩).kind ∧ (akN 8 0 1 n ⟨#[]⟩).kind ≤ 8 from ⟨of_decide_eq_true rfl, of_decide_eq_true rfl⟩), mv2_o]
    unfold Od.done
    rw [if_pos ⟨rfl, show (0 : Int) < 1 by decide, hn.1, hn.2⟩]
    rfl
  rw [e]
  exact ⟨rfl, rfl, mv_used.2.2⟩
/-- where the tail is, question by question, once the sequencer was started -/
def tkM (n : Int) : Nat → Tl
  | 0 => ⟨0, twT, 2, 0, 0⟩
  | 1 => ⟨0, twT, 1, 0, 0⟩
  | 2 => ⟨1, mvL, 2, 0, 0⟩
  | _ => ⟨1, mvL, 3, n, 0⟩
theorem tk_h47 {n : Int} {x : An} {c : Bool} (hx : x.code = 47) : (tkM n 0).hear x c = tkM n 0 := if_pos (.inr (.inr (.inr hx)))
theorem tk_h40 {n : Int} {x : An} (hx : x.code = 40) : (tkM n 0).hear x true = tkM n 1 := by
  obtain ⟨xc, xn, xd, xp, xL, xm, xz, xe⟩ := x
  obtain rfl : xc = 40 := hx
  exact (if_neg (show ¬ ((2 : Int) = 3 ∨ true = false ∨ (40 : Int) = 45 ∨ (40 : Int) = 47) by decide)).trans (if_pos rfl)
theorem tk_hlay {n xn xm xz xe : Int} {xd : ByteArray} : (tkM n 1).hear ⟨0, xn, xd, 1, mvL, xm, xz, xe⟩ true = tkM n 2 :=
  (if_neg (show ¬ ((1 : Int) = 3 ∨ true = false ∨ (0 : Int) = 45 ∨ (0 : Int) = 47) by decide)).trans ((if_neg (show ¬ (0 : Int) = 40 by decide)).trans ((if_pos rfl).trans (if_pos ⟨rfl, show goodB 1 mvL = true by decide +kernel⟩)))
theorem tk_hok {n xm xz xe : Int} {xd : ByteArray} (hn : 0 ≤ n ∧ n ≤ 16384) : (tkM n 2).hear ⟨0, n, xd, 0, [], xm, xz, xe⟩ true = tkM n 3 :=
  (if_neg (show ¬ ((2 : Int) = 3 ∨ true = false ∨ (0 : Int) = 45 ∨ (0 : Int) = 47) by decide)).trans ((if_neg (show ¬ (0 : Int) = 40 by decide)).trans ((if_neg (show ¬ (2 : Int) = 1 by decide)).trans ((if_pos rfl).trans (if_pos hn))))
theorem mv2_h : mv2.heard (akN 7 0 0 0 ⟨#[]⟩) 0 = ⟨47, 0, noT, 0, [], 0, 0, 0⟩ := by
  rw [heard0T]
  show mv2.n.ans (askTl 0) = _
  rw [nd_tail_ans, mv2_o]
  rfl
theorem tail_asked (h : Hd) (e : Int) : h.asked (akN 7 0 e 0 ⟨#[]⟩) 0 = h := by
  rw [asked0T]
  show (⟨h.n.done (askTl e), h.held⟩ : Hd) = h
  rw [nd_tail_done]
theorem lay_asked (h : Hd) : h.asked (akN 9 0 0 0 ⟨#[]⟩) 0 = h := by
  rw [asked0T]
  show (⟨h.n.done layK, h.held⟩ : Hd) = h
  rw [(nd_lay_done h.n).1]
theorem mv3_h0 {n : Int} (hn : 0 ≤ n ∧ n ≤ 16384) : (mv3 n).heard (akN 7 0 0 0 ⟨#[]⟩) 0 = ⟨40, 0, noT, 0, [], 0, 0, 1⟩ := by
  rw [heard0T]
  show (mv3 n).n.ans (askTl 0) = _
  rw [nd_tail_ans, (mv3_is hn).1]
  rfl
theorem mv3_h1 {n : Int} (hn : 0 ≤ n ∧ n ≤ 16384) : (mv3 n).heard (akN 7 0 1 0 ⟨#[]⟩) 0 = ⟨0, n, noT, 0, [], 0, 0, 1⟩ := by
  rw [heard0T]
  show (mv3 n).n.ans (askTl 1) = _
  rw [nd_tail_ans, (mv3_is hn).1]
  rfl
theorem mv3_hl {n : Int} (hn : 0 ≤ n ∧ n ≤ 16384) : ∃ xn xm xz : Int, (mv3 n).heard (akN 9 0 0 0 ⟨#[]⟩) 0 = ⟨0, xn, noL, 1, mvL, xm, xz, 0⟩ := by
  rw [heard0T]
  refine ⟨(mv3 n).n.l.n, (mv3 n).n.l.mark, (mv3 n).n.l.size, ?_⟩
  show (mv3 n).n.ans layK = _
  rw [(nd_lay_done (mv3 n).n).2, (mv3_is hn).2.1, mv2_l.1, mv2_l.2]
theorem newTl_tw : newTl 0 twT = tkM 0 0 := by unfold newTl; rw [if_pos (by decide +kernel)]; rfl
end Go.Proofs.YtchhmfdalghgcaaGreat
