/- The program keeps to the contracts of a fetch; pages are looked at through their unit. No conditions but those that the contracts name. (Written by gen/genfmp.py.) -/
import Derived.Test.YthffjanidjjkdaaGreatG34a
import Derived.Test.YthffjanidjjkdaaGreatG20a
import Derived.Test.YthffjanidjjkdaaGreatG14b
set_option linter.unusedVariables false
namespace Go.Proofs.YthffjanidjjkdaaGreat
set_option linter.unusedVariables false
open Go.RowKit
set_option maxRecDepth 20000
theorem fm_ask (b : Nat) (G : Nat → Prop) (w : World) (f : Fe) (h : FM b G w f) :
    Calls Tryz.prog 26 #[ptrP b] w fun e w' => e = .returned (.tuple #[askV f.ask, .bool f.asks]) ∧ Leaves (FM b) G w w' f := by
  have HL := fun w' (hb : Below w.heap.size w w') => Leaves.same (fm_thing b) h hb
  obtain ⟨q, hs, hq⟩ := h
  obtain ⟨i7, i1, i6, i2, i3, i4, i5⟩ := hs.at_iff
  have hr := hs.range
  unfold Fe.ask Fe.asks
  by_cases a7 : f.at_ = 7
  · rw [if_neg (by omega), if_neg (by omega), if_neg (by omega), if_neg (by omega), if_neg (by omega), decide_eq_false (fun e => e a7)]
    exact (fp_ask_over b G w q (i7.2 a7) hq).mono fun e w' ⟨h1, h2⟩ => ⟨h1, HL w' h2⟩
  · rw [decide_eq_true a7]
    by_cases a16 : f.at_ = 1 ∨ f.at_ = 6
    · rw [if_pos a16]
      exact (fp_ask_lay b G w q (by omega) hq).mono fun e w' ⟨h1, h2⟩ => ⟨h1, HL w' h2⟩
    · rw [if_neg a16]
      have hh := hs.held (by omega)
      have hl := hs.some a7
      have ho := hs.here a7
      have hf := hs.few
      unfold Fe.unitK
      unfold Fe.chain at *
      rw [← hs.ep, ← hs.chains, ← hs.addr] at *
      by_cases a2 : f.at_ = 2
      · rw [if_pos a2]
        have hu := hh.last a2
        exact (fp_ask_read b G w q (.inl (i2.2 a2)) hf ho ((chainR q.ep q.L q.addr).length - 1) (by unfold Fe.chain at hu; rw [← hs.ep, ← hs.chains, ← hs.addr] at hu; omega) (by omega) hq).mono fun e w' ⟨h1, h2⟩ => ⟨h1, HL w' h2⟩
      · rw [if_neg a2]
        by_cases a3 : f.at_ = 3
        · rw [if_pos a3]
          exact (fp_ask_read b G w q (.inr (i3.2 a3)) hf ho 0 (by have := hh.first (.inl a3); omega) (by omega) hq).mono fun e w' ⟨h1, h2⟩ => ⟨h1, HL w' h2⟩
        · rw [if_neg a3]
          by_cases a4 : f.at_ = 4
          · rw [if_pos a4]
            exact (fp_ask_fill b G w q (.inl (i4.2 a4)) (fun e => by omega) hf ho 0 (by have := hh.first (.inr a4); omega) (by omega) hq).mono fun e w' ⟨h1, h2⟩ => ⟨h1, HL w' h2⟩
          · have a5 : f.at_ = 5 := by omega
            rw [if_neg a4, if_pos a5]
            obtain ⟨u1, u2, u3, u4, u5⟩ := hh.mend a5
            unfold Fe.chain at u2
            rw [← hs.ep, ← hs.chains, ← hs.addr] at u2
            by_cases k1 : f.kind = 1
            · rw [if_pos k1, ← u4]
              exact (fp_ask_write b G w q (i5.2 a5) (u3.trans k1) (by rw [u4]; exact u5) hf ho f.i u1 u2 hq).mono fun e w' ⟨h1, h2⟩ => ⟨h1, HL w' h2⟩
            · rw [if_neg k1]
              exact (fp_ask_fill b G w q (.inr (i5.2 a5)) (fun _ => by rw [u3]; exact k1) hf ho f.i u1 u2 hq).mono fun e w' ⟨h1, h2⟩ => ⟨h1, HL w' h2⟩
theorem fm_over (b : Nat) (G : Nat → Prop) (w : World) (f : Fe) (h : FM b G w f) :
    Calls Tryz.prog 27 #[ptrP b] w fun e w' => e = .returned (.tuple #[.int .i64 f.overK, .string f.overS, .int .i64 f.overE, .bool f.overB]) ∧ Below w.heap.size w w' := by
  obtain ⟨q, hs, hq⟩ := h
  obtain ⟨i7, _⟩ := hs.at_iff
  have C := fp_over b G w q hq (fun e => by obtain ⟨_, o2, _, o4⟩ := hs.over (i7.1 e); rw [o2]; exact o4)
  unfold Fe.overK Fe.overS Fe.overE Fe.overB
  by_cases a7 : f.at_ = 7
  · obtain ⟨o1, o2, o3, _⟩ := hs.over a7
    rw [if_pos (i7.2 a7), if_pos (i7.2 a7), if_pos (i7.2 a7), decide_eq_true (i7.2 a7), o1, o2, o3] at C
    rw [if_pos a7, if_pos a7, if_pos a7, decide_eq_true a7]
    exact C
  · have n6 : ¬ q.at_ = 6 := fun e => a7 (i7.1 e)
    rw [if_neg n6, if_neg n6, if_neg n6, decide_eq_false n6] at C
    rw [if_neg a7, if_neg a7, if_neg a7, decide_eq_false a7]
    exact C
theorem fm_hear (b : Nat) (G : Nat → Prop) (w : World) (f : Fe) (x : An) (ao : Option Addr) (cap : Nat) (c : Bool) (h : FM b G w f) (hf : fewL x.L) (he : i64w x.pe) (hd : x.data.size ≤ 1000000) (hx : CL w ao x.L) :
    Calls Tryz.prog 25 #[ptrP b, ansV x ao cap, .bool c] w fun e w' => e = .returned (.tuple #[]) ∧ Leaves (FM b) G w w' (f.hear x c) := by
  obtain ⟨q, hs, hq⟩ := h
  obtain ⟨i7, i1, i6, i2, i3, i4, i5⟩ := hs.at_iff
  have hr := hs.range
  refine (fp_hear b G w q x ao cap c hq (by omega) (by rw [hs.chains]; exact hs.few) (fun e => ?_) hf hx hd).mono fun e w' ⟨h1, G', a1, a2, a3⟩ => ⟨h1, G', ⟨_, simf_hear hs x c hf he hd, a1⟩, a2, a3⟩
  have hh := hs.held (by omega)
  have hl := hs.some (by omega)
  have a : f.at_ = 2 ∨ (f.at_ = 3 ∨ f.at_ = 4) ∨ f.at_ = 5 := by omega
  rcases a with a | a | a
  · have := hh.last a
    omega
  · have := hh.first a
    omega
  · have := (hh.mend a).1
    have := (hh.mend a).2.1
    omega
theorem fm_new (ep : Int) (ao : Option Addr) (cap : Nat) (L : List (List Int)) (addr : Int) (fill : Bool) (w : World) (hc : CL w ao L) (hf : fewL L) (he : i64w ep) :
    Calls Tryz.prog 29 #[.agg #[.int .i64 ep, .slice ao L.length cap], .int .i64 addr, .bool fill] w fun e w' => ∃ (b : Nat) (G : Nat → Prop), e = .returned (ptrP b) ∧ FM b G w' (newFe ep L addr fill) ∧ (∀ k, G k → w.heap.size ≤ k) ∧ Below w.heap.size w w' := by
  have key : Calls Tryz.prog 29 #[.agg #[.int .i64 ep, .slice ao L.length cap], .int .i64 addr, .bool fill] w (NewF w (newQf ep L addr fill)) := by
    unfold newQf
    cases ho : ofB ep L addr with
    | true => rw [if_pos rfl]; exact newf_yes ep ao cap L addr fill w hc hf ho
    | false => rw [if_neg Bool.noConfusion]; exact newf_no ep ao cap L addr fill w hc hf ho
  exact key.mono fun e w' ⟨b, G, h1, h2, h3⟩ => ⟨b, G, h1, ⟨_, simf_new ep L addr fill hf he, h2⟩, h3⟩
theorem fetchSays : FetchSays FM where
  thing := fm_thing
  new := fun ep ao cap L addr fill w hc hf _ _ he _ => fm_new ep ao cap L addr fill w hc hf he
  ask := fm_ask
  hear := fun b G w f x ao cap c h hf he hd hx => fm_hear b G w f x ao cap c h hf he hd (hx w (Kept.refl _ _))
  over := fm_over
  nil_ask := fp_nil_ask
  nil_hear := fp_nil_hear
  nil_over := fp_nil_over
  nil_P := fp_nil_P
theorem looksSays : LooksSays UM where
  read := fun b pb G w u q h hq => by
    obtain ⟨hok, F, hF⟩ := UM.page h
    exact pageSays.read F w pb u.p q hF hok hq.of
  kind := fun b pb G w u q h hq => by
    obtain ⟨hok, F, hF⟩ := UM.page h
    exact pageSays.kind F w pb u.p q hF hok hq.of
  used := fun b pb G w u h => by
    obtain ⟨hok, F, hF⟩ := UM.page h
    exact pageSays.used F w pb u.p hF hok
end Go.Proofs.YthffjanidjjkdaaGreat
