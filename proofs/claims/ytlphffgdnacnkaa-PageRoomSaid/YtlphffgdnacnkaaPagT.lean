/- The program's pages and the document's own, side by side in memory: each call of the one leaves the other, and what else is named, as it was. Conditions: the program's functions return what PageSays says. -/
import Derived.Test.YtlphffgdnacnkaaPagO
import Derived.Test.YtlphffgdnacnkaaPagBe
namespace Go.Proofs.Ytlphffgdnacnkaa
open Go.RowKit
set_option linter.unusedVariables false
set_option maxRecDepth 20000
/-- block b is the program's object of the pages p, block r the document's of the pages q; no block is of both; none of X is of either -/
def Duo (PG : (Nat → Prop) → World → Nat → Ps → Prop) (X : Nat → Prop) (w : World) (b : Nat) (p : Ps) (r : Nat) (q : Ps) : Prop :=
  (p.Ok ∧ q.Ok) ∧ (∀ k, X k → k < w.heap.size) ∧ ∃ F G : Nat → Prop, PG F w b p ∧ RG G w r q ∧ (∀ k, X k → ¬ F k ∧ ¬ G k) ∧ ∀ k, F k → ¬ G k
theorem RG.lt {G : Nat → Prop} {w : World} {b : Nat} {p : Ps} (h : RG G w b p) : ∀ k, G k → k < w.heap.size := by
  obtain ⟨v, _, _, _, _, h5⟩ := h
  exact h5
section
variable {PG : (Nat → Prop) → World → Nat → Ps → Prop} {X Y : Nat → Prop} {w w' : World} {b r : Nat} {p q : Ps}
theorem Duo.below (HS : PageSays PG) (h : Duo PG X w b p r q) (hb : Below w.heap.size w w') : Duo PG X w' b p r q := by
  obtain ⟨h1, h2, F, G, h4, h5, h6, h8⟩ := h
  exact ⟨h1, fun k hk => Nat.lt_of_lt_of_le (h2 k hk) hb.size, F, G, HS.keep h4 (Kept.ofBelow hb (fun _ => True)) (fun _ _ => trivial), h5.below hb, h6, h8⟩
theorem Duo.less (h : Duo PG X w b p r q) (hy : ∀ k, Y k → X k) : Duo PG Y w b p r q := by
  obtain ⟨h1, h2, F, G, h4, h5, h6, h8⟩ := h
  exact ⟨h1, fun k hk => h2 k (hy k hk), F, G, h4, h5, fun k hk => h6 k (hy k hk), h8⟩
theorem Duo.beside (HS : PageSays PG) (h : Duo PG X w b p r q) (x : Obj) : Duo PG (fun k => X k ∨ k = w.heap.size) (w.alloc x) b p r q := by
  obtain ⟨h1, h2, F, G, h4, h5, h6, h8⟩ := h
  have hb : Below w.heap.size w (w.alloc x) := (Below.refl _ _).alloc (Nat.le_refl _) x
  refine ⟨h1, fun k hk => ?_, F, G, HS.keep h4 (Kept.ofBelow hb (fun _ => True)) (fun _ _ => trivial), h5.below hb, fun k hk => ?_, h8⟩
  · rcases hk with hk | hk
    · exact Nat.lt_of_lt_of_le (h2 k hk) hb.size
    · rw [hk]; simp
  · rcases hk with hk | hk
    · exact h6 k hk
    · rw [hk]
      exact ⟨fun hf => Nat.lt_irrefl _ (HS.lt h4 _ hf), fun hg => Nat.lt_irrefl _ (h5.lt _ hg)⟩
theorem duo_pwrite (HS : PageSays PG) (h : Duo PG X w b p r q) {a : Int} {s : ByteArray} (ha : wide a) (hs : s.size ≤ 1000000) : Calls Try.prog 11 #[ptrP b, .int .i64 a, .string s] w fun e w' => e = .returned (.int .i64 (p.writeE a s)) ∧ Duo PG X w' b (p.write a s) r q ∧ Kept X w w' := by
  obtain ⟨h1, h2, F, G, h4, h5, h6, h8⟩ := h
  refine (HS.write F w b p a s h4 h1.1 ha hs).mono ?_
  rintro e w' ⟨he, F', r1, r2, r3⟩
  refine ⟨he, ⟨⟨h1.1.write a s, h1.2⟩, fun k hk => Nat.lt_of_lt_of_le (h2 k hk) r2.size, F', G, r1, h5.keep r2 (fun k hg hf => h8 k hf hg), fun k hk => ⟨fun hf => ?_, (h6 k hk).2⟩, fun k hk hg => ?_⟩, r2.mono (fun k hk => (h6 k hk).1)⟩
  · rcases r3 k hf with h | h
    · exact (h6 k hk).1 h
    · have := h2 k hk
      omega
  · rcases r3 k hk with h | h
    · exact h8 k h hg
    · have := h5.lt k hg
      omega
theorem duo_rwrite (HS : PageSays PG) (h : Duo PG X w b p r q) {a : Int} {s : ByteArray} (hs : s.size ≤ 1000000) : Calls Try.prog 12 #[ptrP r, .int .i64 a, .string s] w fun e w' => e = .returned (.int .i64 (q.writeE a s)) ∧ Duo PG X w' b p r (q.write a s) ∧ Kept X w w' := by
  obtain ⟨h1, h2, F, G, h4, h5, h6, h8⟩ := h
  refine (rwrite_any G w r q a s h5 h1.2 hs).mono ?_
  rintro e w' ⟨he, G', r1, r2, r3⟩
  refine ⟨he, ⟨⟨h1.1, h1.2.write a s⟩, fun k hk => Nat.lt_of_lt_of_le (h2 k hk) r2.size, F, G', HS.keep h4 r2 (fun k hf hg => h8 k hf hg), r1, fun k hk => ⟨(h6 k hk).1, fun hg => ?_⟩, fun k hk hg => ?_⟩, r2.mono (fun k hk => (h6 k hk).2)⟩
  · rcases r3 k hg with h | h
    · exact (h6 k hk).2 h
    · have := h2 k hk
      omega
  · rcases r3 k hg with h | h
    · exact h8 k hk h
    · have := HS.lt h4 k hk
      omega
theorem duo_pfill (HS : PageSays PG) (h : Duo PG X w b p r q) {a : Int} (ha : wide a) : Calls Try.prog 13 #[ptrP b, .int .i64 a] w fun e w' => e = .returned (.int .i64 (p.fillE a)) ∧ Duo PG X w' b (p.fill a) r q ∧ Kept X w w' := by
  obtain ⟨h1, h2, F, G, h4, h5, h6, h8⟩ := h
  refine (HS.fill F w b p a h4 h1.1 ha).mono ?_
  rintro e w' ⟨he, F', r1, r2, r3⟩
  refine ⟨he, ⟨⟨h1.1.fill a, h1.2⟩, fun k hk => Nat.lt_of_lt_of_le (h2 k hk) r2.size, F', G, r1, h5.keep r2 (fun k hg hf => h8 k hf hg), fun k hk => ⟨fun hf => ?_, (h6 k hk).2⟩, fun k hk hg => ?_⟩, r2.mono (fun k hk => (h6 k hk).1)⟩
  · rcases r3 k hf with h | h
    · exact (h6 k hk).1 h
    · have := h2 k hk
      omega
  · rcases r3 k hk with h | h
    · exact h8 k h hg
    · have := h5.lt k hg
      omega
theorem duo_rfill (HS : PageSays PG) (h : Duo PG X w b p r q) {a : Int} : Calls Try.prog 14 #[ptrP r, .int .i64 a] w fun e w' => e = .returned (.int .i64 (q.fillE a)) ∧ Duo PG X w' b p r (q.fill a) ∧ Kept X w w' := by
  obtain ⟨h1, h2, F, G, h4, h5, h6, h8⟩ := h
  refine (rfill_any G w r q a h5 h1.2).mono ?_
  rintro e w' ⟨he, G', r1, r2, r3⟩
  refine ⟨he, ⟨⟨h1.1, h1.2.fill a⟩, fun k hk => Nat.lt_of_lt_of_le (h2 k hk) r2.size, F, G', HS.keep h4 r2 (fun k hf hg => h8 k hf hg), r1, fun k hk => ⟨(h6 k hk).1, fun hg => ?_⟩, fun k hk hg => ?_⟩, r2.mono (fun k hk => (h6 k hk).2)⟩
  · rcases r3 k hg with h | h
    · exact (h6 k hk).2 h
    · have := h2 k hk
      omega
  · rcases r3 k hg with h | h
    · exact h8 k hk h
    · have := HS.lt h4 k hk
      omega
theorem duo_ptrim (HS : PageSays PG) (h : Duo PG X w b p r q) {a : Int} (ha : wide a) : Calls Try.prog 15 #[ptrP b, .int .i64 a] w fun e w' => e = .returned (.int .i64 (Ps.trimE a)) ∧ Duo PG X w' b (p.trim a) r q ∧ Kept X w w' := by
  obtain ⟨h1, h2, F, G, h4, h5, h6, h8⟩ := h
  refine (HS.trim F w b p a h4 h1.1 ha).mono ?_
  rintro e w' ⟨he, F', r1, r2, r3⟩
  refine ⟨he, ⟨⟨h1.1.trim a, h1.2⟩, fun k hk => Nat.lt_of_lt_of_le (h2 k hk) r2.size, F', G, r1, h5.keep r2 (fun k hg hf => h8 k hf hg), fun k hk => ⟨fun hf => ?_, (h6 k hk).2⟩, fun k hk hg => ?_⟩, r2.mono (fun k hk => (h6 k hk).1)⟩
  · rcases r3 k hf with h | h
    · exact (h6 k hk).1 h
    · have := h2 k hk
      omega
  · rcases r3 k hk with h | h
    · exact h8 k h hg
    · have := h5.lt k hg
      omega
theorem duo_rtrim (HS : PageSays PG) (h : Duo PG X w b p r q) {a : Int} : Calls Try.prog 16 #[ptrP r, .int .i64 a] w fun e w' => e = .returned (.int .i64 (Ps.trimE a)) ∧ Duo PG X w' b p r (q.trim a) ∧ Kept X w w' := by
  obtain ⟨h1, h2, F, G, h4, h5, h6, h8⟩ := h
  refine (rtrim_any G w r q a h5 h1.2).mono ?_
  rintro e w' ⟨he, G', r1, r2, r3⟩
  refine ⟨he, ⟨⟨h1.1, h1.2.trim a⟩, fun k hk => Nat.lt_of_lt_of_le (h2 k hk) r2.size, F, G', HS.keep h4 r2 (fun k hf hg => h8 k hf hg), r1, fun k hk => ⟨(h6 k hk).1, fun hg => ?_⟩, fun k hk hg => ?_⟩, r2.mono (fun k hk => (h6 k hk).2)⟩
  · rcases r3 k hg with h | h
    · exact (h6 k hk).2 h
    · have := h2 k hk
      omega
  · rcases r3 k hg with h | h
    · exact h8 k hk h
    · have := HS.lt h4 k hk
      omega
theorem duo_pread (HS : PageSays PG) (h : Duo PG X w b p r q) {a : Int} (ha : wide a) : Calls Try.prog 17 #[ptrP b, .int .i64 a] w fun e w' => e = .returned (.tuple #[.string (p.readS a), .int .i64 (p.readE a)]) ∧ Duo PG X w' b p r q ∧ Kept X w w' := by
  have h' := h
  obtain ⟨h1, h2, F, G, h4, h5, h6, h8⟩ := h
  exact (HS.read F w b p a h4 h1.1 ha).mono fun e w' ⟨he, hl⟩ => ⟨he, h'.below HS hl, Kept.ofBelow hl X⟩
theorem duo_rread (HS : PageSays PG) (h : Duo PG X w b p r q) {a : Int} : Calls Try.prog 18 #[ptrP r, .int .i64 a] w fun e w' => e = .returned (.tuple #[.string (q.readS a), .int .i64 (q.readE a)]) ∧ Duo PG X w' b p r q ∧ Kept X w w' := by
  have h' := h
  obtain ⟨h1, h2, F, G, h4, h5, h6, h8⟩ := h
  exact (rread_any G w r q a h5 h1.2).mono fun e w' ⟨he, n, hl⟩ => ⟨he, h'.below HS (by rw [hl]; exact below_drewN (Below.refl _ _) n), by rw [hl]; exact (Kept.refl X w).drewN n⟩
theorem duo_pkind (HS : PageSays PG) (h : Duo PG X w b p r q) {a : Int} (ha : wide a) : Calls Try.prog 19 #[ptrP b, .int .i64 a] w fun e w' => e = .returned (.int .i64 (p.kind a)) ∧ Duo PG X w' b p r q ∧ Kept X w w' := by
  have h' := h
  obtain ⟨h1, h2, F, G, h4, h5, h6, h8⟩ := h
  exact (HS.kind F w b p a h4 h1.1 ha).mono fun e w' ⟨he, hl⟩ => ⟨he, h'.below HS hl, Kept.ofBelow hl X⟩
theorem duo_rkind (HS : PageSays PG) (h : Duo PG X w b p r q) {a : Int} : Calls Try.prog 20 #[ptrP r, .int .i64 a] w fun e w' => e = .returned (.int .i64 (q.kind a)) ∧ Duo PG X w' b p r q ∧ Kept X w w' := by
  have h' := h
  obtain ⟨h1, h2, F, G, h4, h5, h6, h8⟩ := h
  exact (rkind_any G w r q a h5 (by have := h1.2.small; omega)).mono fun e w' ⟨he, hl⟩ => ⟨he, hl ▸ h', hl ▸ Kept.refl X w⟩
theorem duo_ptail (HS : PageSays PG) (h : Duo PG X w b p r q) : Calls Try.prog 21 #[ptrP b] w fun e w' => e = .returned (.int .i64 p.tail) ∧ Duo PG X w' b p r q ∧ Kept X w w' := by
  have h' := h
  obtain ⟨h1, h2, F, G, h4, h5, h6, h8⟩ := h
  exact (HS.tail F w b p h4 h1.1).mono fun e w' ⟨he, hl⟩ => ⟨he, h'.below HS hl, Kept.ofBelow hl X⟩
theorem duo_rtail (HS : PageSays PG) (h : Duo PG X w b p r q) : Calls Try.prog 22 #[ptrP r] w fun e w' => e = .returned (.int .i64 q.tail) ∧ Duo PG X w' b p r q ∧ Kept X w w' := by
  have h' := h
  obtain ⟨h1, h2, F, G, h4, h5, h6, h8⟩ := h
  exact (rtail_any G w r q h5 h1.2).mono fun e w' ⟨he, hl⟩ => ⟨he, hl ▸ h', hl ▸ Kept.refl X w⟩
theorem duo_pused (HS : PageSays PG) (h : Duo PG X w b p r q) : Calls Try.prog 23 #[ptrP b] w fun e w' => e = .returned (.int .i64 p.l.length) ∧ Duo PG X w' b p r q ∧ Kept X w w' := by
  have h' := h
  obtain ⟨h1, h2, F, G, h4, h5, h6, h8⟩ := h
  exact (HS.used F w b p h4 h1.1).mono fun e w' ⟨he, hl⟩ => ⟨he, h'.below HS hl, Kept.ofBelow hl X⟩
theorem duo_rused (HS : PageSays PG) (h : Duo PG X w b p r q) : Calls Try.prog 24 #[ptrP r] w fun e w' => e = .returned (.int .i64 q.l.length) ∧ Duo PG X w' b p r q ∧ Kept X w w' := by
  have h' := h
  obtain ⟨h1, h2, F, G, h4, h5, h6, h8⟩ := h
  exact (rused_any G w r q h5).mono fun e w' ⟨he, hl⟩ => ⟨he, hl ▸ h', hl ▸ Kept.refl X w⟩
theorem duo_pedge (HS : PageSays PG) (h : Duo PG X w b p r q) : Calls Try.prog 25 #[ptrP b] w fun e w' => e = .returned (.int .i64 p.edge) ∧ Duo PG X w' b p r q ∧ Kept X w w' := by
  have h' := h
  obtain ⟨h1, h2, F, G, h4, h5, h6, h8⟩ := h
  exact (HS.edge F w b p h4 h1.1).mono fun e w' ⟨he, hl⟩ => ⟨he, h'.below HS hl, Kept.ofBelow hl X⟩
theorem duo_redge (HS : PageSays PG) (h : Duo PG X w b p r q) : Calls Try.prog 26 #[ptrP r] w fun e w' => e = .returned (.int .i64 q.edge) ∧ Duo PG X w' b p r q ∧ Kept X w w' := by
  have h' := h
  obtain ⟨h1, h2, F, G, h4, h5, h6, h8⟩ := h
  exact (redge_any G w r q h5).mono fun e w' ⟨he, hl⟩ => ⟨he, hl ▸ h', hl ▸ Kept.refl X w⟩
end
/-- both New side by side -/
theorem duo_made {PG : (Nat → Prop) → World → Nat → Ps → Prop} (HS : PageSays PG) {w0 w1 : World} {b : Nat} {room : Int} (hr : 1 ≤ room ∧ room ≤ 4096) (h : Up PG w0.heap.size w0 w1 b (newP room)) :
    Calls Try.prog 8 #[.int .i64 room] w1 fun e w' => ∃ r, e = .returned (.tuple #[ptrP r, .int .i64 0]) ∧ Duo PG (fun k => k < w0.heap.size) w' b (newP room) r (newP room) ∧ Below w0.heap.size w0 w' := by
  obtain ⟨h1, h2, h3, F, h4, h5⟩ := h
  refine (rnew_yes room w1 hr).mono ?_
  rintro e w' ⟨he, hR, hb⟩
  refine ⟨w1.heap.size, he, ⟨⟨h1, h1⟩, fun k hk => ?_, F, _, HS.keep h4 (Kept.ofBelow hb (fun _ => True)) (fun _ _ => trivial), hR, fun k hk => ⟨fun hf => ?_, fun hg => ?_⟩, fun k hk hg => ?_⟩, h2.trans (hb.mono h3)⟩
  · have := hb.size
    show k < w'.heap.size
    have hk' : k < w0.heap.size := hk
    omega
  · have := h5 k hf
    have hk' : k < w0.heap.size := hk
    omega
  · have hk' : k < w0.heap.size := hk
    have hg' : k = w1.heap.size := hg
    omega
  · have := HS.lt h4 k hk
    have hg' : k = w1.heap.size := hg
    omega
end Go.Proofs.Ytlphffgdnacnkaa
