/- What the program's own Write, Fill and Read return, and make of pages. Conditions: the object lies where the call was told; its pages are as the calls make them. What the program's own 'met' returns: a map in which each unit of a projection leads to a place where it stands, and nothing else does. Conditions: the projection lies where the call was told, and is not too large. What the program's sequencer that nobody made answers any question. No conditions. -/
import Derived.Test.YtphigibhgldnpaaG12a
import Derived.Test.YtphigibhgldnpaaG11a
import Derived.Test.YtphigibhgldnpaaG12b
import Derived.Maps.RangeWalk
import Derived.Test.YtphigibhgldnpaaG10b
set_option linter.unusedVariables false
namespace Go.Proofs.Ytphigibhgldnpaa
open Go.RowKit Go.Maps
set_option linter.unusedVariables false
set_option maxRecDepth 20000
theorem Ps.Ok.none {p : Ps} (h : p.Ok) {a : Int} (ht : thereB a = true) (hk : p.kind a = 0) : a ∉ p.l.map (·.at_) := by
  intro hm
  obtain ⟨x, hx, e⟩ := List.mem_map.1 hm
  exact (h.kind_zero ht hk).2 x hx e
theorem Ps.Ok.most {p : Ps} (h : p.Ok) : p.l.length ≤ 100000 := by have := h.few; have := h.room; omega
set_option maxHeartbeats 8000000 in
theorem pwrite_any (G : Nat → Prop) (w : World) (b : Nat) (p : Ps) (a : Int) (s : ByteArray) (h : PGm G w b p) (hok : p.Ok) (hs : s.size ≤ 1000000) :
    Calls Try.prog 92 #[.pointer (some ⟨b, 0, none⟩), .int .i64 a, .string s] w fun e w' => e = .returned (.int .i64 (p.writeE a s)) ∧ Left PGm G w w' b (p.write a s) := by
  have CN := Lib.hid (pgIsNone_any b a w)
  have CK := Lib.hid (kind_any G w b p a h)
  have HNO := Lib.hid (show ∀ c, p.writeE a s = c → c ≠ 0 → Left PGm G w w b (p.write a s) from fun c e hc => by
    unfold Ps.write
    rw [if_neg (by rw [e]; exact hc)]
    exact left_same h)
  by_cases ht : thereB a = true
  · rw [ht] at CN
    have ht' : ¬ thereB a = false := by rw [ht]; decide
    by_cases hz : 4096 < s.size
    · have HE := Lib.hid (show p.writeE a s = 2 from by unfold Ps.writeE; rw [if_neg ht', if_pos hz])
      have hz' : (4096 : Int) < (s.size : Int) := by omega
      clear h hok hz ht ht'
      generalize p.kind a = kd at *
      go_enter Try.func92, Try.ntmps92
      go_wp2_with (first | (go_at_call 98; refine CN.out.mono ?_; rintro e w1 ⟨rfl, rfl⟩) | (go_at_call 97; refine CK.out.mono ?_; rintro e w2 ⟨rfl, rfl⟩))
      go_ret
      rw [HE.out]
      exact ⟨rfl, HNO.out 2 HE.out (by decide)⟩
    have hz' : (s.size : Int) ≤ 4096 := by omega
    by_cases h3 : p.kind a = 3
    · have HE := Lib.hid (show p.writeE a s = 43 from by unfold Ps.writeE; rw [if_neg ht', if_neg hz, if_pos h3])
      rw [h3] at CK
      clear h hok h3 hz ht ht'
      go_enter Try.func92, Try.ntmps92
      go_wp2_with (first | (go_at_call 98; refine CN.out.mono ?_; rintro e w1 ⟨rfl, rfl⟩) | (go_at_call 97; refine CK.out.mono ?_; rintro e w2 ⟨rfl, rfl⟩))
      go_ret
      rw [HE.out]
      exact ⟨rfl, HNO.out 43 HE.out (by decide)⟩
    have d3 : (p.kind a == 3) = false := beq_eq_false_iff_ne.2 h3
    by_cases h0 : p.kind a = 0
    · rw [h0] at CK
      have CP := Lib.hid (put_any G w b p a 1 s h ht (hok.none ht h0) hs hok.most)
      have HE := Lib.hid (show (if p.room ≤ p.l.length then (44 : Int) else 0) = p.writeE a s from by unfold Ps.writeE; rw [if_neg ht', if_neg hz, if_neg h3, if_neg (show ¬ p.kind a ≠ 0 from by rw [h0]; decide)])
      have HW := Lib.hid (show (if p.room ≤ p.l.length then p else p.add ⟨a, 1, s⟩) = p.write a s from by
        unfold Ps.write
        rw [← HE.out]
        by_cases hr : p.room ≤ p.l.length
        · rw [if_pos hr, if_pos hr, if_neg (by decide)]
        · rw [if_neg hr, if_neg hr, if_pos rfl])
      rw [HE.out, HW.out] at CP
      clear h hok h3 h0 hz ht ht' d3
      go_enter Try.func92, Try.ntmps92
      go_wp2_with (first | (go_at_call 98; refine CN.out.mono ?_; rintro e w1 ⟨rfl, rfl⟩) | (go_at_call 97; refine CK.out.mono ?_; rintro e w2 ⟨rfl, rfl⟩) | (go_at_call 99; refine CP.out.mono ?_; rintro e w3 ⟨rfl, h3⟩))
      go_ret
      exact ⟨rfl, h3⟩
    · have HE := Lib.hid (show p.writeE a s = 41 from by unfold Ps.writeE; rw [if_neg ht', if_neg hz, if_neg h3, if_pos h0])
      have d0 : (p.kind a != 0) = true := bne_iff_ne.2 h0
      clear h hok h3 h0 hz ht ht'
      generalize p.kind a = kd at *
      go_enter Try.func92, Try.ntmps92
      go_wp2_with (first | (go_at_call 98; refine CN.out.mono ?_; rintro e w1 ⟨rfl, rfl⟩) | (go_at_call 97; refine CK.out.mono ?_; rintro e w2 ⟨rfl, rfl⟩))
      go_ret
      rw [HE.out]
      exact ⟨rfl, HNO.out 41 HE.out (by decide)⟩
  · have ht' : thereB a = false := Bool.eq_false_iff.2 ht
    have HE := Lib.hid (show p.writeE a s = 1 from by unfold Ps.writeE; rw [if_pos ht'])
    rw [ht'] at CN
    clear h hok ht ht'
    generalize p.kind a = kd at *
    go_enter Try.func92, Try.ntmps92
    go_wp2_with (first | (go_at_call 98; refine CN.out.mono ?_; rintro e w1 ⟨rfl, rfl⟩) | (go_at_call 97; refine CK.out.mono ?_; rintro e w2 ⟨rfl, rfl⟩))
    go_ret
    rw [HE.out]
    exact ⟨rfl, HNO.out 1 HE.out (by decide)⟩
theorem pwrite_nil (a : Int) (s : ByteArray) (w : World) (hs : s.size ≤ maxLen) : Calls Try.prog 92 #[.pointer none, .int .i64 a, .string s] w fun e w' => e = .returned (.int .i64 1) ∧ w = w' := by
  have CN := Lib.hid (isNone_nil a w)
  have CK := Lib.hid (kind_nil a w)
  go_enter Try.func92, Try.ntmps92
  go_wp2_with (first | (go_at_call 98; refine CN.out.mono ?_; rintro e w1 ⟨rfl, rfl⟩) | (go_at_call 97; refine CK.out.mono ?_; rintro e w2 ⟨rfl, rfl⟩))
  go_ret
  exact ⟨rfl, rfl⟩
set_option maxHeartbeats 8000000 in
theorem pfill_any (G : Nat → Prop) (w : World) (b : Nat) (p : Ps) (a : Int) (h : PGm G w b p) (hok : p.Ok) :
    Calls Try.prog 93 #[.pointer (some ⟨b, 0, none⟩), .int .i64 a] w fun e w' => e = .returned (.int .i64 (p.fillE a)) ∧ Left PGm G w w' b (p.fill a) := by
  have CN := Lib.hid (pgIsNone_any b a w)
  have CK := Lib.hid (kind_any G w b p a h)
  have HNO := Lib.hid (show ∀ c, p.fillE a = c → (c ≠ 0 ∨ p.kind a = 2) → Left PGm G w w b (p.fill a) from fun c e hc => by
    unfold Ps.fill
    rw [if_neg (by rw [e]; rintro ⟨h1, h2⟩; rcases hc with hc | hc; exact hc h1; exact h2 hc)]
    exact left_same h)
  by_cases ht : thereB a = true
  · rw [ht] at CN
    have ht' : ¬ thereB a = false := by rw [ht]; decide
    have hks := hok.kinds a
    by_cases h3 : p.kind a = 3
    · have HE := Lib.hid (show p.fillE a = 43 from by unfold Ps.fillE; rw [if_neg ht', if_pos h3])
      rw [h3] at CK
      clear h hok h3 ht ht' hks
      go_enter Try.func93, Try.ntmps93
      go_wp2_with (first | (go_at_call 98; refine CN.out.mono ?_; rintro e w1 ⟨rfl, rfl⟩) | (go_at_call 97; refine CK.out.mono ?_; rintro e w2 ⟨rfl, rfl⟩))
      go_ret
      rw [HE.out]
      exact ⟨rfl, HNO.out 43 HE.out (.inl (by decide))⟩
    by_cases h2 : p.kind a = 2
    · have HE := Lib.hid (show p.fillE a = 0 from by unfold Ps.fillE; rw [if_neg ht', if_neg h3, if_pos h2])
      have HK := Lib.hid h2
      rw [h2] at CK
      clear h hok h3 h2 ht ht' hks
      go_enter Try.func93, Try.ntmps93
      go_wp2_with (first | (go_at_call 98; refine CN.out.mono ?_; rintro e w1 ⟨rfl, rfl⟩) | (go_at_call 97; refine CK.out.mono ?_; rintro e w2 ⟨rfl, rfl⟩))
      go_ret
      rw [HE.out]
      exact ⟨rfl, HNO.out 0 HE.out (.inr HK.out)⟩
    by_cases h1 : p.kind a = 1
    · have HE := Lib.hid (show p.fillE a = 41 from by unfold Ps.fillE; rw [if_neg ht', if_neg h3, if_neg h2, if_pos h1])
      rw [h1] at CK
      clear h hok h3 h2 h1 ht ht' hks
      go_enter Try.func93, Try.ntmps93
      go_wp2_with (first | (go_at_call 98; refine CN.out.mono ?_; rintro e w1 ⟨rfl, rfl⟩) | (go_at_call 97; refine CK.out.mono ?_; rintro e w2 ⟨rfl, rfl⟩))
      go_ret
      rw [HE.out]
      exact ⟨rfl, HNO.out 41 HE.out (.inl (by decide))⟩
    have h0 : p.kind a = 0 := by omega
    have CP := Lib.hid (put_any G w b p a 2 ⟨#[]⟩ h ht (hok.none ht h0) (by decide) hok.most)
    have HE := Lib.hid (show (if p.room ≤ p.l.length then (44 : Int) else 0) = p.fillE a from by unfold Ps.fillE; rw [if_neg ht', if_neg h3, if_neg h2, if_neg h1])
    have HW := Lib.hid (show (if p.room ≤ p.l.length then p else p.add ⟨a, 2, ⟨#[]⟩⟩) = p.fill a from by
      unfold Ps.fill
      rw [← HE.out]
      by_cases hr : p.room ≤ p.l.length
      · rw [if_pos hr, if_pos hr, if_neg (by rintro ⟨h, _⟩; exact absurd h (by decide))]
      · rw [if_neg hr, if_neg hr, if_pos ⟨rfl, h2⟩])
    rw [HE.out, HW.out] at CP
    rw [h0] at CK
    clear h hok h3 h0 h1 h2 ht ht' hks
    go_enter Try.func93, Try.ntmps93
    go_wp2_with (first | (go_at_call 98; refine CN.out.mono ?_; rintro e w1 ⟨rfl, rfl⟩) | (go_at_call 97; refine CK.out.mono ?_; rintro e w2 ⟨rfl, rfl⟩) | (go_at_call 99; refine CP.out.mono ?_; rintro e w3 ⟨rfl, h3⟩))
    go_ret
    exact ⟨rfl, h3⟩
  · have ht' : thereB a = false := Bool.eq_false_iff.2 ht
    have HE := Lib.hid (show p.fillE a = 1 from by unfold Ps.fillE; rw [if_pos ht'])
    rw [ht'] at CN
    clear h hok ht ht'
    go_enter Try.func93, Try.ntmps93
    go_wp2_with (go_at_call 98; refine CN.out.mono ?_; rintro e w1 ⟨rfl, rfl⟩)
    go_ret
    rw [HE.out]
    exact ⟨rfl, HNO.out 1 HE.out (.inl (by decide))⟩
theorem pfill_nil (a : Int) (w : World) : Calls Try.prog 93 #[.pointer none, .int .i64 a] w fun e w' => e = .returned (.int .i64 1) ∧ w = w' := by
  have CN := Lib.hid (isNone_nil a w)
  go_enter Try.func93, Try.ntmps93
  go_wp2_with (go_at_call 98; refine CN.out.mono ?_; rintro e w1 ⟨rfl, rfl⟩)
  go_ret
  exact ⟨rfl, rfl⟩
set_option maxHeartbeats 8000000 in
theorem pread_any (G : Nat → Prop) (w : World) (b : Nat) (p : Ps) (a : Int) (h : PGm G w b p) (hok : p.Ok) :
    Calls Try.prog 94 #[.pointer (some ⟨b, 0, none⟩), .int .i64 a] w fun e w' => e = .returned (.tuple #[.string (p.readS a), .int .i64 (p.readE a)]) ∧ Below w.heap.size w w' := by
  have CN := Lib.hid (pgIsNone_any b a w)
  have CK := Lib.hid (kind_any G w b p a h)
  by_cases ht : thereB a = true
  · rw [ht] at CN
    have ht' : ¬ thereB a = false := by rw [ht]; decide
    have hks := hok.kinds a
    by_cases h3 : p.kind a = 3
    · have HE := Lib.hid (show p.readE a = 43 from by unfold Ps.readE; rw [if_neg ht', if_pos h3])
      have HS := Lib.hid (show p.readS a = ⟨#[]⟩ from by unfold Ps.readS; rw [HE.out]; rfl)
      rw [h3] at CK
      clear h hok h3 hks ht ht'
      go_enter Try.func94, Try.ntmps94
      go_wp2_with (first | (go_at_call 98; refine CN.out.mono ?_; rintro e w1 ⟨rfl, rfl⟩) | (go_at_call 97; refine CK.out.mono ?_; rintro e w2 ⟨rfl, rfl⟩))
      go_ret2
      rw [HE.out, HS.out]
      exact ⟨rfl, Below.refl _ _⟩
    by_cases h0 : p.kind a = 0
    · have HE := Lib.hid (show p.readE a = 42 from by unfold Ps.readE; rw [if_neg ht', if_neg h3, if_pos h0])
      have HS := Lib.hid (show p.readS a = ⟨#[]⟩ from by unfold Ps.readS; rw [HE.out]; rfl)
      rw [h0] at CK
      clear h hok h3 h0 hks ht ht'
      go_enter Try.func94, Try.ntmps94
      go_wp2_with (first | (go_at_call 98; refine CN.out.mono ?_; rintro e w1 ⟨rfl, rfl⟩) | (go_at_call 97; refine CK.out.mono ?_; rintro e w2 ⟨rfl, rfl⟩))
      go_ret2
      rw [HE.out, HS.out]
      exact ⟨rfl, Below.refl _ _⟩
    by_cases h2 : p.kind a = 2
    · have HE := Lib.hid (show p.readE a = 46 from by unfold Ps.readE; rw [if_neg ht', if_neg h3, if_neg h0, if_pos h2])
      have HS := Lib.hid (show p.readS a = ⟨#[]⟩ from by unfold Ps.readS; rw [HE.out]; rfl)
      rw [h2] at CK
      clear h hok h3 h0 h2 hks ht ht'
      go_enter Try.func94, Try.ntmps94
      go_wp2_with (first | (go_at_call 98; refine CN.out.mono ?_; rintro e w1 ⟨rfl, rfl⟩) | (go_at_call 97; refine CK.out.mono ?_; rintro e w2 ⟨rfl, rfl⟩))
      go_ret2
      rw [HE.out, HS.out]
      exact ⟨rfl, Below.refl _ _⟩
    have h1 : p.kind a = 1 := by omega
    have HE := Lib.hid (show p.readE a = 0 from by unfold Ps.readE; rw [if_neg ht', if_neg h3, if_neg h0, if_neg h2])
    have HS := Lib.hid (show p.readS a = textL p.l a from by unfold Ps.readS; rw [if_pos HE.out]; rfl)
    have HZ := Lib.hid (show (textL p.l a).size ≤ 1099511627776 from by
      unfold textL
      cases e : findP p.l a with
      | none => exact Nat.zero_le _
      | some x => have := (hok.each x (findP_some e).1).2.2; show x.s.size ≤ _; omega)
    obtain ⟨mb, g1, g2, _⟩ := h
    obtain ⟨c0, c1, c2, _⟩ := three_cells g1
    have hl := g2.look (there_wf ht)
    have hf := sheet_text
    rw [h1] at CK
    clear g1 g2 hok h3 h0 h1 h2 hks ht ht'
    generalize kindL p.l a = kk at *
    generalize textL p.l a = tt at *
    go_enter Try.func94, Try.ntmps94
    go_wp2_with (first | (go_at_call 98; refine CN.out.mono ?_; rintro e w1 ⟨rfl, rfl⟩) | (go_at_call 97; refine CK.out.mono ?_; rintro e w2 ⟨rfl, rfl⟩) | (go_at_call 100; refine (clone_any tt _ HZ.out).mono ?_; rintro e w3 ⟨rfl, hb3⟩))
    go_ret2
    rw [HE.out, HS.out]
    exact ⟨rfl, hb3⟩
  · have ht' : thereB a = false := Bool.eq_false_iff.2 ht
    have HE := Lib.hid (show p.readE a = 1 from by unfold Ps.readE; rw [if_pos ht'])
    have HS := Lib.hid (show p.readS a = ⟨#[]⟩ from by unfold Ps.readS; rw [HE.out]; rfl)
    rw [ht'] at CN
    clear h hok ht ht'
    go_enter Try.func94, Try.ntmps94
    go_wp2_with (go_at_call 98; refine CN.out.mono ?_; rintro e w1 ⟨rfl, rfl⟩)
    go_ret2
    rw [HE.out, HS.out]
    exact ⟨rfl, Below.refl _ _⟩
theorem pread_nil (a : Int) (w : World) : Calls Try.prog 94 #[.pointer none, .int .i64 a] w fun e w' => e = .returned (.tuple #[.string ⟨#[]⟩, .int .i64 1]) ∧ w = w' := by
  have CN := Lib.hid (isNone_nil a w)
  go_enter Try.func94, Try.ntmps94
  go_wp2_with (go_at_call 98; refine CN.out.mono ?_; rintro e w1 ⟨rfl, rfl⟩)
  go_ret2
  exact ⟨rfl, rfl⟩
end Go.Proofs.Ytphigibhgldnpaa
namespace Go.Proofs.Ytphigibhgldnpaa
open Go.RowKit Go.Maps
set_option maxRecDepth 20000
theorem unit_key_row : (99 : TypeId) < Try.prog.types.size := of_decide_eq_true (by kernel_rfl)
theorem unit_law : Keyed Try.prog 99 := Keyed.of_law (deep_law_laid laidOut (m := 2) (by omega) unit_key_row (by kernel_rfl) (by rw [Try.underlying99]))
/-- a unit as a key -/
def klU (u : Int) : Lit := .string (keyBytes [.int .i64 u])
theorem types_succ : ∃ n, Try.prog.types.size = n + 1 := ⟨Try.prog.types.size - 1, by have h := Nat.lt_of_le_of_lt (Nat.zero_le _) unit_key_row; exact (Nat.succ_pred_eq_of_pos h).symm⟩
theorem unit_key (u : Int) (hu : (Lit.int .i64 u).wf = true) : keyOf Try.prog 99 (.agg #[.int .i64 u]) = some (klU u) := by
  obtain ⟨n, hn⟩ := types_succ
  exact key_one Try.underlying99 (by kernel_rfl) (by rfl) rfl (by kernel_rfl) Try.underlying3 (by kernel_rfl) hn hu
theorem unit_inj (u v : Int) (h : (Value.agg #[Value.int .i64 u]) = .agg #[.int .i64 v]) : u = v := by simpa using h
theorem klU_inj {u v : Int} (hu : (Lit.int .i64 u).wf = true) (hv : (Lit.int .i64 v).wf = true) (h : klU u = klU v) : u = v :=
  unit_inj u v (unit_law.inj (unit_key u hu) (h ▸ unit_key v hv))
theorem klU_key {u : Int} (hu : (Lit.int .i64 u).wf = true) : WideAt.IsKeyLit (klU u) := unit_law.key (unit_key u hu)
/-- a place: in which chain, how far behind its beginning -/
def spotD (i j : Int) : DataW Unit := .agg [.lit (.int .i64 i), .lit (.int .i64 j)]
def spotR : Value → Option (DataW Unit × List MemPlace)
  | .agg a => match a.toList with
    | [.int .i64 i, .int .i64 j] => some (spotD i j, [])
    | _ => none
  | _ => none
theorem spotR_mk (i j : Int) : spotR (.agg #[.int .i64 i, .int .i64 j]) = some (spotD i j, []) := rfl
theorem spotR_inv {v : Value} {z : DataW Unit × List MemPlace} (h : spotR v = some z) : ∃ i j, v = .agg #[.int .i64 i, .int .i64 j] ∧ z = (spotD i j, []) := by
  unfold spotR at h
  split at h
  · next a =>
    split at h
    · next i j e =>
      cases h
      refine ⟨i, j, ?_, rfl⟩
      rw [← Array.toArray_toList (xs := a), e]
    · cases h
  · cases h
theorem spotD_inj {i j k l : Int} (h : spotD i j = spotD k l) : i = k ∧ j = l := by
  unfold spotD at h
  simpa using h
theorem zero_spot (w : World) : (zeroValue 97).run Try.prog w = .ok (.agg #[.int .i64 0, .int .i64 0]) w := by kernel_rfl
/-- each unit of S, and nothing else, leads to a place in L where it stands -/
structure Ms (L : List (List Int)) (D : DataW Unit) (S : List Int) : Prop where
  tidy : Tidy D
  hs : ∀ u, (Lit.int .i64 u).wf = true → Maps.has D (klU u) = decide (u ∈ S)
  size : Maps.size D = (insAll [] S).length
  spot : ∀ u ∈ S, ∃ (i j : Nat) (hi : i < L.length) (hj : j < L[i].length), L[i][j] = u ∧ ∀ zd, D.atKey (klU u) zd = spotD i j
theorem Ms.nil (L : List (List Int)) : Ms L (.map []) [] := ⟨tidy_empty, fun _ _ => rfl, rfl, fun u hu => by cases hu⟩
theorem Ms.put {L : List (List Int)} {D : DataW Unit} {S : List Int} (h : Ms L D S) (hS : ∀ u ∈ S, (Lit.int .i64 u).wf = true) {i j : Nat} (hi : i < L.length) (hj : j < L[i].length) (hu : (Lit.int .i64 L[i][j]).wf = true) :
    Ms L (D.put (klU L[i][j]) (spotD i j)) (S ++ [L[i][j]]) := by
  have hk := klU_key hu
  refine ⟨h.tidy.put hk _, fun v hv => ?_, ?_, fun v hv => ?_⟩
  · by_cases e : v = L[i][j]
    · subst e
      rw [has_put_same h.tidy.isMap hk]
      exact (decide_eq_true (by simp)).symm
    · rw [has_put_other (fun e2 => e (klU_inj hv hu e2)), h.hs v hv]
      simp [e]
  · rw [size_put h.tidy, h.hs _ hu, h.size, insAll_snoc, insU_length _ _ (insAll_rises _ _ List.Pairwise.nil)]
    by_cases e : L[i][j] ∈ S
    · simp [e, insAll_mem]
    · simp [e, insAll_mem]
  · by_cases e : v = L[i][j]
    · subst e
      exact ⟨i, j, hi, hj, rfl, fun zd => atKey_put_same h.tidy.isMap hk _ _⟩
    · have hv' : v ∈ S := by
        rcases List.mem_append.1 hv with h1 | h1
        · exact h1
        · exact absurd (List.mem_singleton.1 h1) e
      obtain ⟨a, b, ha, hb, e1, e2⟩ := h.spot v hv'
      exact ⟨a, b, ha, hb, e1, fun zd => by rw [atKey_put_other (fun e3 => e (klU_inj (hS v hv') hu e3))]; exact e2 zd⟩
/-- the map at block b leads each unit of S to its place -/
def Mt (w : World) (b : Nat) (L : List (List Int)) (S : List Int) : Prop := ∃ D, w.ownsMap Try.prog 99 spotR b S.length D ∧ Ms L D S
theorem Mt.made (w : World) (L : List (List Int)) : Mt (w.alloc (.map #[] 0)) w.heap.size L [] := ⟨_, World.ownsMap_made _ _ _ _, Ms.nil L⟩
theorem Mt.below {w w' : World} {b : Nat} {L : List (List Int)} {S : List Int} (h : Mt w b L S) (hb : Below w.heap.size w w') : Mt w' b L S := by
  obtain ⟨D, ⟨es, clock, h1, h2⟩, h3⟩ := h
  exact ⟨D, ⟨es, clock, below_heap hb h1, h2⟩, h3⟩
theorem Mt.lt {w : World} {b : Nat} {L : List (List Int)} {S : List Int} (h : Mt w b L S) : b < w.heap.size := by
  obtain ⟨D, h1, _⟩ := h
  exact h1.lt
/-- in the map that 'met' returns, all units stand -/
theorem preU_wf2 {w : World} {ao : Option Addr} {L : List (List Int)} (h : CL w ao L) : ∀ u ∈ L.flatten, (Lit.int .i64 u).wf = true := by
  have := preU_wf h L.length 0
  rwa [preU_all] at this
set_option maxHeartbeats 4000000 in
theorem met_any (ep : Int) (ao : Option Addr) (cap : Nat) (L : List (List Int)) (w : World) (h : CL w ao L) (hl : L.length ≤ 255 ∧ ∀ c ∈ L, c.length ≤ 255) :
    Calls Try.prog 38 #[.agg #[.int .i64 ep, .slice ao L.length cap]] w fun e w' => ∃ b, e = .returned (.map (some b)) ∧ w.heap.size ≤ b ∧ Mt w' b L L.flatten ∧ Below w.heap.size w w' := by
  have HB0 := Lib.hid ((Below.refl w.heap.size w).alloc (Nat.le_refl _) (.cells #[.int .i64 ep, .slice ao L.length cap] 30))
  have hl' : (L.length : Int) ≤ 255 := by have := hl.1; omega
  have HT := Lib.hid h
  have HM := Lib.hid hl
  have hmm := @run_makeMap Try.prog
  clear h hl
  go_enter Try.func38, Try.ntmps38
  go_wp2_with fail
  go_loopw [12] (fun i wr => ∃ n : Nat, i = .int .i64 n ∧ n ≤ L.length ∧ Hid (Mt wr (w.heap.size + 1) L (preU L n 0)) ∧ Hid (Below (w.heap.size + 1) (w.alloc (.cells #[.int .i64 ep, .slice ao L.length cap] 30)) wr)) (fun i _ => L.length - (intOf i).toNat)
  case atStart => exact ⟨0, rfl, Nat.zero_le _, Lib.hid (by rw [preU_zero]; have h := Mt.made (w.alloc (.cells #[.int .i64 ep, .slice ao L.length cap] 30)) L; simpa using h), Lib.hid ((Below.refl _ _).alloc (by simp) _)⟩
  case round =>
    obtain ⟨n, rfl, hn, HO, HB⟩ := hrel
    by_cases hlt : n < L.length
    · have HWB := Lib.hid (HB0.out.trans (HB.out.mono (by omega)))
      obtain ⟨bk, off, ai, ci, hao, c0w, hN⟩ := HT.out n hlt
      subst hao
      have c0 : wr.cell? ⟨bk, off + n, none⟩ = some (.slice ai L[n].length ci) := cellB HWB.out (block_lt_of_cell c0w) c0w
      have HNN := Lib.hid hN
      have k0 : (n : Int) < (L.length : Int) := by omega
      have m0 := HM.out.2 _ (List.getElem_mem hlt)
      have m0' : (L[n].length : Int) ≤ 255 := by omega
      clear c0w hN
      go_wp2_with fail
      go_loopw [19] (fun j wq => ∃ k : Nat, j = .int .i64 k ∧ k ≤ L[n].length ∧ Hid (Mt wq (w.heap.size + 1) L (preU L n k)) ∧ Hid (Below (w.heap.size + 1) (w.alloc (.cells #[.int .i64 ep, .slice (some ⟨bk, off, none⟩) L.length cap] 30)) wq)) (fun j _ => L[n].length - (intOf j).toNat)
      case atStart => exact ⟨0, rfl, Nat.zero_le _, HO, HB⟩
      case round =>
        obtain ⟨k, rfl, hk, HO2, HB2⟩ := hrel
        clear c0
        have HWQ := Lib.hid (HB0.out.trans (HB2.out.mono (by omega)))
        by_cases hkt : k < L[n].length
        · obtain ⟨b5, o5, hai, c5⟩ := (HNN.out.below HWQ.out).at k hkt
          have hwf := HNN.out.wf _ (List.getElem_mem hkt)
          subst hai
          have k5 : (k : Int) < (L[n].length : Int) := by omega
          obtain ⟨D, hD, hMs⟩ := HO2.out
          have HD := Lib.hid hD
          have HKEY := Lib.hid (unit_key _ hwf)
          have HPUT := Lib.hid (hMs.put (preU_wf HT.out n k) hlt hkt hwf)
          have HPS := Lib.hid (preU_succ hlt hkt)
          have HCNT := Lib.hid (show (preU L n k).length < maxLen from by have := preU_len (k := k) HM.out hlt; unfold maxLen; omega)
          have hB : w.heap.size + 1 ≤ wr.heap.size := by have := HB2.out.size; simpa using this
          clear hwf hD hMs
          rw [← HPS.out] at HPUT
          generalize L[n][k] = u at *
          go_wp2_with (at_mapUpdate; refine wpList_mapUpdate_own _ rfl _ _ _ 89 rfl 99 97 unit_law Try.underlying89 spotR (w.heap.size + 1) _ _ rfl HD.out HCNT.out _ _ _ rfl rfl HKEY.out (spotD n k) [] (spotR_mk _ _) ?_; intro w1 hown1 hgrow1; have HO3 := Lib.hid hown1; have HB3 := Lib.hid (HB2.out.grown hgrow1 hB (fun k e => by cases e; exact Nat.le_refl _)); clear hown1 hgrow1)
          exact ⟨⟨k + 1, by go_num, by omega, Lib.hid ⟨_, by rw [show (preU L n (k + 1)).length = (preU L n k).length + 1 from by rw [HPS.out, List.length_append]; rfl]; exact HO3.out, HPUT.out⟩, HB3⟩, by simp [intOf]; omega⟩
        · obtain rfl : k = L[n].length := by omega
          have HPC := Lib.hid (preU_chain hlt)
          rw [HPC.out] at HO2
          go_wp2_with fail
          go_roundw
          case rel => exact ⟨n + 1, by go_num, by omega, HO2, HB2⟩
          case measure => simp [intOf]; omega
    · obtain rfl : n = L.length := by omega
      have HWB := Lib.hid (HB0.out.trans (HB.out.mono (by omega)))
      rw [preU_all] at HO
      go_wp2_with fail
      go_ret
      exact ⟨_, rfl, by omega, HO.out, HWB.out⟩
end Go.Proofs.Ytphigibhgldnpaa
namespace Go.Proofs.Ytphigibhgldnpaa
set_option linter.unusedVariables false
open Go.RowKit
set_option maxRecDepth 20000
theorem on_nil_ask (w : World) (a : Ak) : Calls Try.prog 22 #[.pointer none, askV a] w fun e w' => e = .returned (ansV (anP 1 0 noT 0) none 0) ∧ Below w.heap.size w w' := by
  obtain ⟨k, un, ep, pg, sz, n, s, pe, L, ao, cap⟩ := a
  have HW := Lib.hid (two_blocks w #[.int .i64 k, .int .i64 un, .int .i64 ep, .int .i64 pg, .int .i64 sz, .int .i64 n, .string s, .int .i64 pe, .slice ao L.length cap] #[.int .i64 0, .int .i64 0, .string ⟨#[]⟩, .int .i64 0, .slice none 0 0, .int .i64 0, .int .i64 0, .int .i64 0] 37 34)
  have HB := Lib.hid (show Below w.heap.size w ((w.alloc (.cells #[.int .i64 k, .int .i64 un, .int .i64 ep, .int .i64 pg, .int .i64 sz, .int .i64 n, .string s, .int .i64 pe, .slice ao L.length cap] 37)).alloc (.cells #[.int .i64 0, .int .i64 0, .string ⟨#[]⟩, .int .i64 0, .slice none 0 0, .int .i64 0, .int .i64 0, .int .i64 0] 34)) from (below_new _ _).alloc (by simp) _)
  show Calls _ _ #[.pointer none, .agg #[.int .i64 k, .int .i64 un, .int .i64 ep, .int .i64 pg, .int .i64 sz, .int .i64 n, .string s, .int .i64 pe, .slice ao L.length cap]] w _
  go_enter Try.func22, Try.ntmps22
  go_wp2_with (go_at_call 31; refine (ocoded_any _ _).mono ?_; rintro e w2 ⟨rfl, hb2⟩; have HX := Lib.hid (below_heap hb2 HW.out.2); obtain ⟨⟨x0, x1, x2, x3, x4, x5, x6, x7⟩, f0, f1, f2, f3, f4, f5, f6, f7⟩ := eight_cells HX.out; have hx := lt_of_block HX.out; have HB2 := Lib.hid (HB.out.trans (hb2.mono HB.out.size)); clear hb2)
  exact ans_ret (x := anP 1 0 noT 0) (ao := none) (cap := 0) rfl (eight_set7 (eight_set6 (eight_set5 (eight_set4 (eight_set3 (eight_set2 (eight_set1 (eight_set0 HX.out _) _) _) _) _) _) _) _) rfl rfl ⟨rfl, ((((((((HB2.out.setCell (by simp) _).setCell (by simp) _).setCell (by simp) _).setCell (by simp) _).setCell (by simp) _).setCell (by simp) _).setCell (by simp) _).setCell (by simp) _)⟩
end Go.Proofs.Ytphigibhgldnpaa
