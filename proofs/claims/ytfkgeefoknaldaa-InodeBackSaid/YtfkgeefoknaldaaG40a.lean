/- Stage 20: what feeds an inode, plainly; the document's New as a thing; the statements' fair. No conditions. -/
import Derived.Test.YtfkgeefoknaldaaG39a
set_option linter.unusedVariables false
namespace Go.Proofs.Ytfkgeefoknaldaa
open Go.RowKit
set_option linter.unusedVariables false
set_option maxRecDepth 20000
theorem fed_new : fedI newT := fun x hx => by
  rw [List.mem_singleton.1 hx]
  decide
theorem fed_turn {l : List Ino} {n by_ : Int} {f : Ino → Ino} {t' : Tb} (hf : ∀ x ∈ l, 1 ≤ x.links + x.opens) (ht : TbI t') (hl : t'.l = if by_ < 0 then endsI (turnI l n f) n else turnI l n f) (hb : ¬ by_ < 0 → ∀ x ∈ l, 1 ≤ (f x).links + (f x).opens) (hi : ∀ x, (f x).ino = x.ino) : fedI t' := by
  intro z hz
  have hB := ht.each z hz
  obtain ⟨_, _, ⟨b1, _⟩, ⟨b2, _⟩, _⟩ := hB
  rw [hl] at hz
  by_cases h0 : by_ < 0
  · rw [if_pos h0] at hz
    obtain ⟨h1, h2⟩ := List.mem_filter.1 hz
    simp only [Bool.not_eq_true', decide_eq_false_iff_not] at h2
    obtain ⟨y, hy, rfl⟩ := List.mem_map.1 h1
    by_cases hn : y.ino = n
    · rw [if_pos hn] at h2 b1 b2 ⊢
      have := (hi y).trans hn
      omega
    · rw [if_neg hn]
      exact hf y hy
  · rw [if_neg h0] at hz
    obtain ⟨y, hy, rfl⟩ := List.mem_map.1 hz
    split
    · exact hb h0 y hy
    · exact hf y hy
theorem fed_link {t : Tb} (ht : TbI t) (hf : fedI t) (n k : Int) : fedI (linkI t n k).1 := by
  have h2 := ht.link n k
  unfold linkI at h2 ⊢
  revert h2
  cases e : getI t.l n with
  | none => intro _; exact hf
  | some x =>
    dsimp only
    split
    · rename_i hc
      split
      · intro h2
        refine fed_turn hf h2 rfl (fun h0 y hy => by
        have hk : k = 1 := by
          have := of_decide_eq_true hc.1
          omega
        have := (ht.each y hy).2.2.1
        have := (ht.each y hy).2.2.2.1
        show 1 ≤ y.links + k + y.opens
        omega) (fun _ => rfl)
      · intro _; exact hf
    · intro _; exact hf
theorem fed_open {t : Tb} (ht : TbI t) (hf : fedI t) (n k : Int) : fedI (openI t n k).1 := by
  have h2 := ht.opens n k
  unfold openI at h2 ⊢
  revert h2
  cases e : getI t.l n with
  | none => intro _; exact hf
  | some x =>
    dsimp only
    split
    · rename_i hc
      split
      · intro _; exact hf
      · split
        · intro h2
          refine fed_turn hf h2 rfl (fun h0 y hy => by
          have hk : k = 1 := by
            have := of_decide_eq_true hc
            omega
          have := (ht.each y hy).2.2.1
          have := (ht.each y hy).2.2.2.1
          show 1 ≤ y.links + (y.opens + k)
          omega) (fun _ => rfl)
        · intro _; exact hf
    · intro _; exact hf
theorem fed_file {t : Tb} (hf : fedI t) (n : Int) {f : Ino → Ino × Int} (h : ∀ x, (f x).1.links = x.links ∧ (f x).1.opens = x.opens) : fedI (fileI t n f).1 := by
  cases e : getI t.l n with
  | none => rw [fileI_none e]; exact hf
  | some x =>
    by_cases hk : x.kind = 1
    · rw [fileI_dir e hk]; exact hf
    · rw [fileI_yes e hk]
      intro z hz
      obtain ⟨y, hy, rfl⟩ := List.mem_map.1 hz
      split
      · rw [(h y).1, (h y).2]
        exact hf y hy
      · exact hf y hy
theorem next_file (t : Tb) (n : Int) (f : Ino → Ino × Int) : (fileI t n f).1.next = t.next := by
  cases e : getI t.l n with
  | none => rw [fileI_none e]
  | some x =>
    by_cases hk : x.kind = 1
    · rw [fileI_dir e hk]
    · rw [fileI_yes e hk]
theorem fed_step {t : Tb} (ht : TbI t) (hf : fedI t) (s : Stp) : fedI (stepT t s) := by
  unfold stepT
  split
  · exact fed_link ht hf _ _
  · split
    · exact fed_open ht hf _ _
    · split
      · exact fed_file hf _ (fun x => by unfold writeF; split <;> (try split) <;> exact ⟨rfl, rfl⟩)
      · split
        · exact fed_file hf _ (fun x => by unfold truncF; split <;> exact ⟨rfl, rfl⟩)
        · split
          · exact fed_file hf _ (fun x => by unfold moveF; split <;> exact ⟨rfl, rfl⟩)
          · exact hf
theorem next_link (t : Tb) (n k : Int) : (linkI t n k).1.next = t.next := by
  unfold linkI
  cases getI t.l n with
  | none => rfl
  | some x => dsimp only; split <;> (try split) <;> rfl
theorem next_open (t : Tb) (n k : Int) : (openI t n k).1.next = t.next := by
  unfold openI
  cases getI t.l n with
  | none => rfl
  | some x => dsimp only; split <;> (try split) <;> (try split) <;> rfl
theorem next_step (t : Tb) (s : Stp) : (stepT t s).next = t.next := by
  unfold stepT
  split
  · exact next_link _ _ _
  · split
    · exact next_open _ _ _
    · split
      · exact next_file _ _ _
      · split
        · exact next_file _ _ _
        · split
          · exact next_file _ _ _
          · rfl
/-- one is made, and linked at once -/
theorem fed_made {t : Tb} (ht : TbI t) (hf : fedI t) (k : Int) (he : (makeI t k).2.2 = 0) : (makeI t k).2.1 = t.next ∧ (makeI t k).1.next = t.next + 1 ∧ fedI (linkI (makeI t k).1 t.next 1).1 := by
  have h2 := (ht.make k).link t.next 1
  unfold makeI at he h2 ⊢
  split at he
  · split at he
    · rename_i h3 h4
      rw [if_pos h3, if_pos h4] at h2 ⊢
      refine ⟨rfl, rfl, ?_⟩
      have hg : getI (t.l ++ [⟨t.next, k, 0, 0, 0, []⟩]) t.next = some ⟨t.next, k, 0, 0, 0, []⟩ := by
        have h0 : getI t.l t.next = none := List.find?_eq_none.2 (fun x hx => by
          have := (ht.each x hx).1.2
          simp; omega)
        unfold getI at h0 ⊢
        rw [List.find?_append, h0]
        simp
      have hn := ht.next
      have hE : (linkI ⟨t.l ++ [⟨t.next, k, 0, 0, 0, []⟩], t.next + 1⟩ t.next 1).1 = ⟨turnI (t.l ++ [⟨t.next, k, 0, 0, 0, []⟩]) t.next (fun y => { y with links := y.links + 1 }), t.next + 1⟩ := by
        unfold linkI
        dsimp only
        rw [hg]
        dsimp only
        rw [if_pos ⟨by decide, by omega⟩, if_pos ⟨by decide, by decide⟩, if_neg (by decide)]
      rw [hE]
      intro z hz
      obtain ⟨y, hy, rfl⟩ := List.mem_map.1 hz
      rcases List.mem_append.1 hy with hy | hy
      · have := (ht.each y hy).1.2
        rw [if_neg (by omega)]
        exact hf y hy
      · rw [List.mem_singleton.1 hy, if_pos rfl]
        exact Int.le_refl _
    · exact absurd (show (67 : Int) = 0 from he) (by decide)
  · exact absurd (show (1 : Int) = 0 from he) (by decide)
/-- nothing was made -/
theorem made_not {t : Tb} (k : Int) (he : ¬ (makeI t k).2.2 = 0) : (makeI t k).1 = t := by
  unfold makeI at he ⊢
  split
  · rename_i h3
    split
    · rename_i h4
      rw [if_pos h3, if_pos h4] at he
      exact absurd rfl he
    · rfl
  · rfl
set_option maxHeartbeats 1000000 in
theorem rt_new (w : World) : Calls Try.prog 7 #[] w fun e w' => ∃ q G, e = .returned (.pointer (some ⟨q, 0, none⟩)) ∧ RT q G w' newT ∧ (∀ k, G k → w.heap.size ≤ k) ∧ Below w.heap.size w w' := by
  go_enter Try.func7, Try.ntmps7
  go_wp2_with fail
  go_ret
  have h := heap_alloc_new (w.alloc (.cells #[.int .i64 1, .int .i64 1, .int .i64 1, .int .i64 0, .int .i64 0, .slice none 0 0] 72)) (.cells #[.slice (some ⟨w.heap.size, 0, none⟩) 1 1, .int .i64 2] 74)
  have hg := below_heap (blwA _ (.cells #[.slice (some ⟨w.heap.size, 0, none⟩) 1 1, .int .i64 2] 74)) (heap_alloc_new w (.cells #[.int .i64 1, .int .i64 1, .int .i64 1, .int .i64 0, .int .i64 0, .slice none 0 0] 72))
  refine ⟨w.heap.size + 1, fun k => k = w.heap.size ∨ k = w.heap.size + 1, rfl, ⟨w.heap.size, 1, [rootV], rfl, ⟨show _ = some (Obj.cells #[.slice (some ⟨w.heap.size, 0, none⟩) 1 1, .int .i64 2] 74 (0, 0)) from by simpa using h, ⟨rfl, .inr ⟨w.heap.size, 1, _, rfl, Nat.zero_le _, hg, Nat.le_refl _, by decide, rfl, rfl⟩⟩, Nat.zero_le _, by omega, fun y hy => by
      rw [List.mem_singleton.1 hy]
      exact ⟨Row.nil _ _ _ _, fun _ => rfl, Nat.le_refl _, fun a e => by cases e⟩⟩, .inr rfl, .inl rfl, (fun y hy a e => by
      rw [List.mem_singleton.1 hy] at e
      cases e), fun k hk => by simp; omega⟩, fun k hk => by omega, blwO (blwA _ _) (blwA w _)⟩
def fairS (L : List Stp) : Prop := L.length ≤ 150 ∧ ∀ s ∈ L, s.ms.length ≤ 30
def Fair20 (L : List Stp) (e : Ending) : Prop := ∃ c : Bool, e = .returned (.bool c) ∧ (c = true ↔ fairS L)
set_option maxHeartbeats 1000000 in
/-- false; or few steps of few moves -/
theorem fair20_any (ao : Option Addr) (cap : Nat) (L : List Stp) (w : World) (hl : L.length ≤ maxLen) (hR : StpL w ao L) (hk : ∀ s ∈ L, s.ms.length ≤ maxLen) :
    Calls Try.prog 8 #[.slice ao L.length cap] w fun e w' => Fair20 L e ∧ w = w' := by
  unfold maxLen at hl hk
  have hl' : (L.length : Int) ≤ 9223372036854775807 := by omega
  have HF := Lib.hid hR
  have HK := Lib.hid hk
  clear hR hk
  go_enter Try.func8, Try.ntmps8
  go_wp2_with fail
  go_loopw [3] (fun i wr => ∃ k : Nat, i = .int .i64 k ∧ k ≤ L.length ∧ Hid (∀ s ∈ L.take k, s.ms.length ≤ 30) ∧ Hid (wr = w)) (fun i _ => L.length - (intOf i).toNat)
  case atStart => exact ⟨0, rfl, Nat.zero_le _, Lib.hid (by simp), Lib.hid rfl⟩
  case round =>
    obtain ⟨k, rfl, hkl, HT, HW⟩ := hrel
    obtain rfl := HW.out
    by_cases hlt : k < L.length
    · obtain ⟨bk, off, rfl, d0, d1, d2, d3, d4, d5⟩ := HF.out.at k hlt
      have k0 : (k : Int) < (L.length : Int) := by omega
      have hm := HK.out _ (List.getElem_mem hlt)
      by_cases hc : L[k].ms.length ≤ 30
      · have HT3 := Lib.hid (show ∀ s ∈ L.take (k + 1), s.ms.length ≤ 30 from by
          rw [List.take_succ_eq_append_getElem hlt]
          intro s hs
          rcases List.mem_append.1 hs with h1 | h1
          · exact HT.out s h1
          · rw [List.mem_singleton.1 h1]; exact hc)
        have hcI : decide ((L[k].ms.length : Int) > 30) = false := decide_eq_false (by omega)
        generalize L[k].ms.length = z at *
        go_wp2_with fail
        go_roundw
        case rel => exact ⟨k + 1, by go_num, by omega, HT3, Lib.hid trivial⟩
        case measure => simp [intOf]; omega
      · have HNF := Lib.hid (show ¬ fairS L from fun h => hc (h.2 _ (List.getElem_mem hlt)))
        have hcI : decide ((L[k].ms.length : Int) > 30) = true := decide_eq_true (by omega)
        generalize L[k].ms.length = z at *
        go_wp2_with fail
        go_ret
        exact ⟨⟨false, rfl, ⟨(fun e => by cases e), fun h => absurd h HNF.out⟩⟩, rfl⟩
    · obtain rfl : k = L.length := by omega
      have HA := Lib.hid (show ∀ s ∈ L, s.ms.length ≤ 30 from by have := HT.out; rwa [List.take_of_length_le (Nat.le_refl _)] at this)
      by_cases h2 : L.length ≤ 150
      · have d : decide ((L.length : Int) ≤ 150) = true := decide_eq_true (by omega)
        go_wp2_with fail
        go_ret
        exact ⟨⟨true, rfl, ⟨fun _ => ⟨h2, HA.out⟩, fun _ => rfl⟩⟩, rfl⟩
      · have d : decide ((L.length : Int) ≤ 150) = false := decide_eq_false (by omega)
        go_wp2_with fail
        go_ret
        exact ⟨⟨false, rfl, ⟨(fun e => by cases e), fun h => absurd h.1 h2⟩⟩, rfl⟩
theorem fair20_yes (ao : Option Addr) (cap : Nat) (L : List Stp) (w : World) (hl : L.length ≤ maxLen) (hR : StpL w ao L) (hk : ∀ s ∈ L, s.ms.length ≤ maxLen) (hf : fairS L) :
    Calls Try.prog 8 #[.slice ao L.length cap] w fun e w' => e = .returned (.bool true) ∧ w = w' := by
  refine (fair20_any ao cap L w hl hR hk).mono ?_
  rintro e w' ⟨⟨c, rfl, h⟩, rfl⟩
  rw [h.2 hf]
  exact ⟨rfl, rfl⟩
theorem fair20_no (ao : Option Addr) (cap : Nat) (L : List Stp) (w : World) (hl : L.length ≤ maxLen) (hR : StpL w ao L) (hk : ∀ s ∈ L, s.ms.length ≤ maxLen) (hf : ¬ fairS L) :
    Calls Try.prog 8 #[.slice ao L.length cap] w fun e w' => e = .returned (.bool false) ∧ w = w' := by
  refine (fair20_any ao cap L w hl hR hk).mono ?_
  rintro e w' ⟨⟨c, rfl, h⟩, rfl⟩
  cases c with
  | false => exact ⟨rfl, rfl⟩
  | true => exact absurd (h.1 rfl) hf
end Go.Proofs.Ytfkgeefoknaldaa
