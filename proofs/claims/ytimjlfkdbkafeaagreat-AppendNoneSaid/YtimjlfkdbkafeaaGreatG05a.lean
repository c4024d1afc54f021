/- What the document's own there, find, Kind, Read, Used, Edge, Tail tell of pages. Conditions: the object lies where the call was told. Slices of slices of whole numbers, and a projection that was handed over by value: what their cells hold. No conditions. -/
import Derived.Test.YtimjlfkdbkafeaaGreatG04a
import Derived.Test.YtimjlfkdbkafeaaGreatG01a
import Derived.Test.YtimjlfkdbkafeaaGreatG02b
set_option linter.unusedVariables false
namespace Go.Proofs.YtimjlfkdbkafeaaGreat
open Go.RowKit
set_option maxRecDepth 20000
theorem rthere_any (a : Int) (w : World) : Calls Tryz.prog 127 #[.int .i64 a] w fun e w' => e = .returned (.bool (thereB a)) ∧ w = w' := by
  by_cases h0 : 0 ≤ a
  · by_cases h1 : a < 4096
    · rw [show thereB a = true from thereB_iff.2 ⟨h0, h1⟩]
      have d1 : decide (a < 4096) = true := decide_eq_true h1
      go_enter Tryz.func127, Tryz.ntmps127
      go_wp2_with fail
      go_ret
      exact ⟨rfl, rfl⟩
    · rw [show thereB a = false from Bool.eq_false_iff.2 (fun e => h1 (thereB_iff.1 e).2)]
      have d1 : decide (a < 4096) = false := decide_eq_false h1
      clear h1
      go_enter Tryz.func127, Tryz.ntmps127
      go_wp2_with fail
      go_ret
      exact ⟨rfl, rfl⟩
  · rw [show thereB a = false from Bool.eq_false_iff.2 (fun e => h0 (thereB_iff.1 e).1)]
    have d1 : decide (0 ≤ a) = false := decide_eq_false h0
    clear h0
    go_enter Tryz.func127, Tryz.ntmps127
    go_wp2_with fail
    go_ret
    exact ⟨rfl, rfl⟩
theorem no_take_succ {l : List Pg} {k : Nat} {a : Int} (hk : k < l.length) (h : ∀ x ∈ l.take k, x.at_ ≠ a) (e : l[k].at_ ≠ a) : ∀ x ∈ l.take (k + 1), x.at_ ≠ a := by
  rw [List.take_succ_eq_append_getElem hk]
  intro x hx
  rcases List.mem_append.1 hx with h1 | h1
  · exact h x h1
  · rw [List.mem_singleton.1 h1]; exact e
theorem rfind_any (G : Nat → Prop) (w : World) (b : Nat) (p : Ps) (a : Int) (h : RG G w b p) (hl : p.l.length ≤ 100000) :
    Calls Tryz.prog 129 #[.pointer (some ⟨b, 0, none⟩), .int .i64 a] w fun e w' => ∃ r : Int, e = .returned (.int .i64 r) ∧ w = w' ∧ ((r = -1 ∧ findP p.l a = none) ∨ ∃ k : Nat, r = k ∧ ∃ hk : k < p.l.length, findP p.l a = some p.l[k]) := by
  obtain ⟨v, h1, h2, _⟩ := h
  obtain ⟨ao, cap, rfl, hP, _, _⟩ := h2.form
  obtain ⟨c0, c1, c2, _, _, _⟩ := three_cells h1
  have HP := Lib.hid hP
  have hl' : (p.l.length : Int) ≤ 100000 := by omega
  clear h1 h2 hP
  go_enter Tryz.func129, Tryz.ntmps129
  go_wp2_with fail
  go_loop [5] (fun i => ∃ k : Nat, i = .int .i64 k ∧ k ≤ p.l.length ∧ Hid (∀ x ∈ p.l.take k, x.at_ ≠ a)) (fun i => p.l.length - (intOf i).toNat)
  case atStart => exact ⟨0, rfl, Nat.zero_le _, Lib.hid (by simp)⟩
  case round =>
    obtain ⟨k, rfl, hk, HT⟩ := hrel
    by_cases hlt : k < p.l.length
    · obtain ⟨bk, off, rfl, d0, d1, d2⟩ := HP.out k hlt
      have k0 : (k : Int) < (p.l.length : Int) := by omega
      by_cases he : p.l[k].at_ = a
      · have HF := Lib.hid (findP_take hlt HT.out he)
        have q1 : (p.l[k].at_ == a) = true := beq_iff_eq.2 he
        clear he
        go_wp2_with fail
        go_ret
        exact ⟨_, rfl, rfl, .inr ⟨k, rfl, hlt, HF.out⟩⟩
      · have HT2 := Lib.hid (no_take_succ hlt HT.out he)
        have q1 : (p.l[k].at_ == a) = false := beq_eq_false_iff_ne.2 he
        clear he
        go_wp2_with fail
        go_round
        case rel => exact ⟨k + 1, by go_num, by omega, HT2⟩
        case measure => simp [intOf]; omega
    · obtain rfl : k = p.l.length := by omega
      have HF := Lib.hid (show findP p.l a = none from findP_none.2 (by have := HT.out; rwa [List.take_of_length_le (Nat.le_refl _)] at this))
      go_wp2_with fail
      go_ret
      exact ⟨_, rfl, rfl, .inl ⟨rfl, HF.out⟩⟩
theorem rfind_no (G : Nat → Prop) (w : World) (b : Nat) (p : Ps) (a : Int) (h : RG G w b p) (hl : p.l.length ≤ 100000) (hn : findP p.l a = none) :
    Calls Tryz.prog 129 #[.pointer (some ⟨b, 0, none⟩), .int .i64 a] w fun e w' => e = .returned (.int .i64 (-1)) ∧ w = w' := by
  refine (rfind_any G w b p a h hl).mono ?_
  rintro e w' ⟨r, rfl, rfl, ⟨rfl, _⟩ | ⟨k, rfl, hk, hf⟩⟩
  · exact ⟨rfl, rfl⟩
  · rw [hn] at hf
    cases hf
theorem rfind_yes (G : Nat → Prop) (w : World) (b : Nat) (p : Ps) (a : Int) (h : RG G w b p) (hl : p.l.length ≤ 100000) (x : Pg) (hn : findP p.l a = some x) :
    Calls Tryz.prog 129 #[.pointer (some ⟨b, 0, none⟩), .int .i64 a] w fun e w' => ∃ (k : Nat) (hk : k < p.l.length), e = .returned (.int .i64 k) ∧ w = w' ∧ p.l[k] = x := by
  refine (rfind_any G w b p a h hl).mono ?_
  rintro e w' ⟨r, rfl, rfl, ⟨rfl, hf⟩ | ⟨k, rfl, hk, hf⟩⟩
  · rw [hn] at hf
    cases hf
  · rw [hn] at hf
    exact ⟨k, hk, rfl, rfl, (Option.some.inj hf).symm⟩
set_option maxHeartbeats 1000000 in
theorem rkind_any (G : Nat → Prop) (w : World) (b : Nat) (p : Ps) (a : Int) (h : RG G w b p) (hl : p.l.length ≤ 100000) :
    Calls Tryz.prog 128 #[.pointer (some ⟨b, 0, none⟩), .int .i64 a] w fun e w' => e = .returned (.int .i64 (p.kind a)) ∧ w = w' := by
  have HG := Lib.hid h
  have CT := Lib.hid (rthere_any a w)
  have hl' : (p.l.length : Int) ≤ 100000 := by omega
  by_cases ht : thereB a = true
  · rw [ht] at CT
    obtain ⟨v, h1, h2, _⟩ := h
    obtain ⟨ao, cap, rfl, hP, _, _⟩ := h2.form
    obtain ⟨c0, c1, c2, _, _, _⟩ := three_cells h1
    by_cases he : a < p.edge
    · rw [show p.kind a = 3 from by unfold Ps.kind; rw [if_pos ht, if_pos he]]
      clear h1 h2 hP
      go_enter Tryz.func128, Tryz.ntmps128
      go_wp2_with (go_at_call 127; refine CT.out.mono ?_; rintro e w1 ⟨rfl, rfl⟩)
      go_ret
      exact ⟨rfl, rfl⟩
    have he' : p.edge ≤ a := by omega
    cases hf : findP p.l a with
    | none =>
      rw [show p.kind a = 0 from by unfold Ps.kind; rw [if_pos ht, if_neg he, hf]]
      have CF := Lib.hid (rfind_no G w b p a HG.out hl hf)
      clear h1 h2 hP he hf
      go_enter Tryz.func128, Tryz.ntmps128
      go_wp2_with (first | (go_at_call 127; refine CT.out.mono ?_; rintro e w1 ⟨rfl, rfl⟩) | (go_at_call 129; refine CF.out.mono ?_; rintro e w2 ⟨rfl, rfl⟩))
      go_ret
      exact ⟨rfl, rfl⟩
    | some x =>
      rw [show p.kind a = x.kind from by unfold Ps.kind; rw [if_pos ht, if_neg he, hf]]
      have CF := Lib.hid (rfind_yes G w b p a HG.out hl x hf)
      have HP := Lib.hid hP
      clear h1 h2 hP he hf
      go_enter Tryz.func128, Tryz.ntmps128
      go_wp2_with (first | (go_at_call 127; refine CT.out.mono ?_; rintro e w1 ⟨rfl, rfl⟩) | (go_at_call 129; refine CF.out.mono ?_; rintro e w2 ⟨k, hk, rfl, rfl, hx⟩; have k0 : (k : Int) < (p.l.length : Int) := (by omega); have k1 : (0 : Int) ≤ (k : Int) := (by omega); obtain ⟨bk, off, hao, d0, d1, d2⟩ := HP.out k hk; subst hao; rw [hx] at d1))
      go_ret
      exact ⟨rfl, rfl⟩
  · have ht' : thereB a = false := Bool.eq_false_iff.2 ht
    rw [ht'] at CT
    rw [show p.kind a = 0 from by unfold Ps.kind; rw [if_neg ht]]
    clear h ht ht'
    go_enter Tryz.func128, Tryz.ntmps128
    go_wp2_with (go_at_call 127; refine CT.out.mono ?_; rintro e w1 ⟨rfl, rfl⟩)
    go_ret
    exact ⟨rfl, rfl⟩
theorem tailP_next {l : List Pg} {k : Nat} (hk : k < l.length) (t : Int) : tailP (l.take (k + 1)) t = max (tailP (l.take k) t) (l[k].at_ + 1) := by
  rw [List.take_succ_eq_append_getElem hk, tailP_snoc]
set_option maxHeartbeats 1000000 in
theorem rtail_any (G : Nat → Prop) (w : World) (b : Nat) (p : Ps) (h : RG G w b p) (hok : p.Ok) : Calls Tryz.prog 121 #[.pointer (some ⟨b, 0, none⟩)] w fun e w' => e = .returned (.int .i64 p.tail) ∧ w = w' := by
  obtain ⟨v, h1, h2, _⟩ := h
  obtain ⟨ao, cap, rfl, hP, _, _⟩ := h2.form
  obtain ⟨c0, c1, c2, _, _, _⟩ := three_cells h1
  have HP := Lib.hid hP
  have hl' : (p.l.length : Int) ≤ 4096 := by have := hok.few; have := hok.room; omega
  have he := hok.edge
  have HE := Lib.hid (fun (k : Nat) (hk : k < p.l.length) => hok.each _ (List.getElem_mem hk))
  have HN := Lib.hid (fun (k : Nat) (hk : k < p.l.length) => tailP_next hk p.edge)
  have HR := Lib.hid (show p.tail = tailP (p.l.take p.l.length) p.edge from by rw [List.take_of_length_le (Nat.le_refl _)]; rfl)
  clear h1 h2 hP hok
  go_enter Tryz.func121, Tryz.ntmps121
  go_wp2_with fail
  go_loop [3, 4] (fun n i => ∃ (k : Nat) (t : Int), i = .int .i64 k ∧ n = .int .i64 t ∧ k ≤ p.l.length ∧ 0 ≤ t ∧ t ≤ 4096 ∧ Hid (t = tailP (p.l.take k) p.edge)) (fun _ i => p.l.length - (intOf i).toNat)
  case atStart => exact ⟨0, p.edge, rfl, rfl, Nat.zero_le _, he.1, he.2, Lib.hid rfl⟩
  case round =>
    obtain ⟨k, t, rfl, rfl, hk, t0, t1, HT⟩ := hrel
    by_cases hlt : k < p.l.length
    · obtain ⟨bk, off, rfl, d0, d1, d2⟩ := HP.out k hlt
      have k0 : (k : Int) < (p.l.length : Int) := by omega
      obtain ⟨⟨e0, e1⟩, _⟩ := HE.out k hlt
      have HN2 := Lib.hid (HN.out k hlt)
      rw [← HT.out] at HN2
      generalize p.l[k].at_ = x at *
      obtain ⟨t5, ht5⟩ : ∃ t5, (if t < x + 1 then x + 1 else t) = t5 := ⟨_, rfl⟩
      have h5 : max t (x + 1) = t5 := by rw [← ht5]; split <;> omega
      have HT2 := Lib.hid (show t5 = tailP (p.l.take (k + 1)) p.edge from by rw [HN2.out, h5])
      have b0 : 0 ≤ t5 ∧ t5 ≤ 4096 := by rw [← h5]; omega
      clear h5
      go_wp2_with fail
      go_round
      case rel => exact ⟨k + 1, t5, by go_num, rfl, by omega, b0.1, b0.2, HT2⟩
      case measure => simp [intOf]; omega
    · obtain rfl : k = p.l.length := by omega
      go_wp2_with fail
      go_ret
      rw [HR.out, ← HT.out]
      exact ⟨rfl, rfl⟩
end Go.Proofs.YtimjlfkdbkafeaaGreat
namespace Go.Proofs.YtimjlfkdbkafeaaGreat
open Go.ChangeShapes Go.WideShapes Go.ChangeAt Go.RowKit

/-- the row at ao holds the numbers l; a slice that is nil has no room -/
def NLI (w : World) (ao : Option Addr) (cap : Nat) (l : List Int) : Prop := NL w ao l ∧ (ao = none → cap = 0) ∧ l.length ≤ cap
theorem NL.nil (w : World) (ao : Option Addr) : NL w ao [] := fun i h => absurd h (Nat.not_lt_zero i)
theorem NLI.nil (w : World) : NLI w none 0 [] := ⟨NL.nil w none, fun _ => rfl, Nat.le_refl _⟩
theorem NLI.below {w w' : World} {ao : Option Addr} {cap : Nat} {l : List Int} (h : NLI w ao cap l) (hb : Below w.heap.size w w') : NLI w' ao cap l := ⟨h.1.below hb, h.2⟩
theorem NLI.of_none {w : World} {cap : Nat} {l : List Int} (h : NLI w none cap l) : l = [] ∧ cap = 0 := by
  obtain ⟨h1, h2, h3⟩ := h
  cases l with
  | nil => exact ⟨rfl, h2 rfl⟩
  | cons x l => have := h2 rfl; simp at h3; omega
theorem NLI.at {w : World} {ao : Option Addr} {cap : Nat} {l : List Int} (h : NLI w ao cap l) (i : Nat) (hi : i < l.length) : ∃ bk off, ao = some ⟨bk, off, none⟩ ∧ w.cell? ⟨bk, off + i, none⟩ = some (.int .i64 l[i]) := (h.1 i hi).1
theorem NLI.rng {w : World} {ao : Option Addr} {cap : Nat} {l : List Int} (h : NLI w ao cap l) (i : Nat) (hi : i < l.length) : -9223372036854775808 ≤ l[i] ∧ l[i] ≤ 9223372036854775807 := i64_of_wf (h.1 i hi).2
/-- the row at ao holds slices, whose rows hold the lists of L -/
def CL (w : World) (ao : Option Addr) (L : List (List Int)) : Prop := ∀ i (h : i < L.length), ∃ bk off ai ci, ao = some ⟨bk, off, none⟩ ∧ w.cell? ⟨bk, off + i, none⟩ = some (.slice ai L[i].length ci) ∧ NLI w ai ci L[i]
theorem CL.nil (w : World) (ao : Option Addr) : CL w ao [] := fun i h => absurd h (Nat.not_lt_zero i)
theorem CL.below {w w' : World} {ao : Option Addr} {L : List (List Int)} (h : CL w ao L) (hb : Below w.heap.size w w') : CL w' ao L := by
  intro i hi
  obtain ⟨bk, off, ai, ci, h1, h2, h3⟩ := h i hi
  exact ⟨bk, off, ai, ci, h1, cellB hb (block_lt_of_cell h2) h2, h3.below hb⟩
/-- a list of whole numbers, all of 64 bits -/
def i64L (l : List Int) : Prop := ∀ u ∈ l, -9223372036854775808 ≤ u ∧ u ≤ 9223372036854775807
theorem NLI.i64 {w : World} {ao : Option Addr} {cap : Nat} {l : List Int} (h : NLI w ao cap l) : i64L l := by
  intro u hu
  obtain ⟨i, hi, rfl⟩ := List.getElem_of_mem hu
  exact h.rng i hi
section
variable {H : Type} {enc : TypeId × Value → H} {P : Program} {w : World} {base : Nat} {spare : Nat → Bool} {held : Bool}
theorem nums_cs {n : Nat} {cs : List Value} {y : DataW H × List MemPlace} {t e : TypeId} (ht : P.underlying t = some (.slice e)) (he : P.underlying e = some (.int .i64)) (hc : P.cellsOf e = 1)
    (hf : DataW.trod enc P w base spare held n t cs = some y) : ∃ ao cap L, cs = [.slice ao L.length cap] ∧ NLI w ao cap L ∧ L.length ≤ maxLen := by
  rcases Deep.open_slice ht hf with ⟨h0, _⟩ | ⟨a, len, cap, m, n, D, Pl, hcs, _, hl, hm, hmm, _, hi⟩
  · exact ⟨none, 0, [], h0, NLI.nil w, Nat.zero_le _⟩
  subst hcs
  have hlm : len ≤ m := by rw [hmm]; split <;> omega
  rw [hc] at hi
  have each : ∀ i, i < len → ∃ x : Int, w.cell? (a.add (i * 1)) = some (.int .i64 x) ∧ (Lit.int .i64 x).wf = true := by
    intro i hin
    obtain ⟨cs, hcl, htr⟩ := hi i (by omega)
    obtain ⟨_, hlen, hat⟩ := World.cells?_some hcl
    match cs, hlen with
    | [x0], _ =>
      obtain ⟨q0, e0, _, wf0⟩ := DataW.trod_int he htr
      simp at e0
      subst e0
      have a0 := hat 0 (by omega)
      rw [Deep.add_add] at a0
      exact ⟨q0, a0, wf0⟩
  obtain ⟨F, hF⟩ := Deep.choose_lt each
  refine ⟨some a, cap, (List.range len).map F, by simp, ⟨fun i hi => ?_, (fun h => by cases h), by simpa using hl⟩, by simp; omega⟩
  have hin : i < len := by simpa using hi
  rw [List.getElem_map, List.getElem_range]
  obtain ⟨b0, ok⟩ := hF i hin
  obtain ⟨z0, _⟩ := hF 0 (by omega)
  have hs := cell_spot z0
  obtain ⟨bk, off, sp⟩ := a
  rw [show ((⟨bk, off, sp⟩ : Addr).add (0 * 1)) = ⟨bk, off, sp⟩ from rfl] at hs
  simp only at hs
  subst hs
  rw [addr_plus, Nat.mul_one] at b0
  exact ⟨⟨bk, off, rfl, b0⟩, ok⟩
theorem chains_cs {n : Nat} {cs : List Value} {y : DataW H × List MemPlace} {t e q : TypeId} (ht : P.underlying t = some (.slice e)) (he : P.underlying e = some (.slice q)) (hq : P.underlying q = some (.int .i64)) (ce : P.cellsOf e = 1) (cq : P.cellsOf q = 1)
    (hf : DataW.trod enc P w base spare held n t cs = some y) : ∃ ao cap L, cs = [.slice ao L.length cap] ∧ CL w ao L ∧ (ao = none → cap = 0) ∧ L.length ≤ cap ∧ L.length ≤ maxLen ∧ ∀ i (h : i < L.length), L[i].length ≤ maxLen := by
  rcases Deep.open_slice ht hf with ⟨h0, _⟩ | ⟨a, len, cap, m, n, D, Pl, hcs, _, hl, hm, hmm, _, hi⟩
  · exact ⟨none, 0, [], h0, CL.nil _ _, fun _ => rfl, Nat.le_refl _, Nat.zero_le _, fun i hi => absurd hi (Nat.not_lt_zero i)⟩
  subst hcs
  have hlm : len ≤ m := by rw [hmm]; split <;> omega
  rw [ce] at hi
  have each : ∀ i, i < len → ∃ f : Option Addr × Nat × List Int, w.cell? (a.add (i * 1)) = some (.slice f.1 f.2.2.length f.2.1) ∧ NLI w f.1 f.2.1 f.2.2 ∧ f.2.2.length ≤ maxLen := by
    intro i hin
    obtain ⟨cs, hcl, htr⟩ := hi i (by omega)
    obtain ⟨_, hlen, hat⟩ := World.cells?_some hcl
    obtain ⟨ai, ci, l, hcs, hN, hm2⟩ := nums_cs he hq cq htr
    subst hcs
    have a0 := hat 0 (by simp)
    rw [Deep.add_add] at a0
    exact ⟨(ai, ci, l), a0, hN, hm2⟩
  obtain ⟨F, hF⟩ := Deep.choose_lt each
  refine ⟨some a, cap, (List.range len).map (fun i => (F i).2.2), by simp, fun i hi => ?_, (fun h => by cases h), by simpa using hl, by simp; omega, fun i hi => ?_⟩
  · have hin : i < len := by simpa using hi
    rw [List.getElem_map, List.getElem_range]
    obtain ⟨b0, ok, _⟩ := hF i hin
    obtain ⟨z0, _⟩ := hF 0 (by omega)
    have hs := cell_spot z0
    obtain ⟨bk, off, sp⟩ := a
    rw [show ((⟨bk, off, sp⟩ : Addr).add (0 * 1)) = ⟨bk, off, sp⟩ from rfl] at hs
    simp only at hs
    subst hs
    rw [addr_plus, Nat.mul_one] at b0
    exact ⟨bk, off, _, _, rfl, b0, ok⟩
  · have hin : i < len := by simpa using hi
    rw [List.getElem_map, List.getElem_range]
    exact (hF i hin).2.2
theorem okWide_str {r : Reach} {b0 : Nat} {t : TypeId} {fs : Array Field} {v : Value} (ht : P.underlying t = some (.struct fs)) (h : Value.okWide P w r b0 t v) : ∃ cs, v = .agg cs ∧ cs.size = P.cellsOf t := by
  simp only [Value.okWide, ht] at h
  obtain ⟨cs, h1, h2, _⟩ := h
  exact ⟨cs, h1, h2⟩
/-- a projection that was handed over -/
theorem open_proj {r : Reach} {b0 : Nat} {t ti tc te : TypeId} {g0 g1 : Field} {v : Value} {d : DataW H} {p : List MemPlace} (ht : P.underlying t = some (.struct #[g0, g1])) (hc : P.cellsOf t = 2)
    (h0 : (g0.offset, g0.type) = (0, ti)) (h1 : (g1.offset, g1.type) = (1, tc)) (ci : P.cellsOf ti = 1) (cc : P.cellsOf tc = 1)
    (ui : P.underlying ti = some (.int .i64)) (uc : P.underlying tc = some (.slice te)) (ue : P.underlying te = some (.slice ti)) (ce : P.cellsOf te = 1)
    (hv : Value.okWide P w r b0 t v) (h : DataW.Trod enc P w base spare held t v d p) :
    ∃ ep ao cap L, v = .agg #[.int .i64 ep, .slice ao L.length cap] ∧ (Lit.int .i64 ep).wf = true ∧ CL w ao L ∧ (ao = none → cap = 0) ∧ L.length ≤ cap ∧ L.length ≤ maxLen ∧ ∀ i (h : i < L.length), L[i].length ≤ maxLen := by
  obtain ⟨A, rfl, hsz⟩ := okWide_str ht hv
  obtain ⟨fuel, hf⟩ := h
  obtain ⟨xs, n, _, _, hl, hxl, hg⟩ := DataW.trod_struct ht hf
  simp only [Value.cells] at hl hg
  have hxl2 : xs.length = 2 := hxl
  simp only [Prod.mk.injEq] at h0 h1
  have a0 := hg 0 g0 rfl
  have a1 := hg 1 g1 rfl
  rw [h0.1, h0.2, ci, List.getElem?_eq_getElem (by omega)] at a0
  rw [h1.1, h1.2, cc, List.getElem?_eq_getElem (by omega)] at a1
  obtain ⟨ep, e0, _, wf⟩ := DataW.trod_int ui a0
  obtain ⟨ao, cap, L, e1, h2, h3, h4, h5, h6⟩ := chains_cs uc ue ui ce ci a1
  refine ⟨ep, ao, cap, L, ?_, wf, h2, h3, h4, h5, h6⟩
  have hA : A.size = 2 := by rw [hsz, hc]
  obtain ⟨l⟩ := A
  match l, hA with
  | [x, y], _ =>
    simp at e0 e1
    rw [e0, e1]
end
end Go.Proofs.YtimjlfkdbkafeaaGreat
