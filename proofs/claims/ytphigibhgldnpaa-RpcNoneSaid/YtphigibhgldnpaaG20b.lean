/- What the program's unit answers any question; all that the laws of units ask of the program. Conditions: it and the question lie where the call was told; the question's data are not too long. What the document's own layout answers any question, and is behind it. Conditions: it and the question lie where the call was told; no more than 100000 units were noted. -/
import Derived.Test.YtphigibhgldnpaaG19b
import Derived.Test.YtphigibhgldnpaaG18c
import Derived.Test.YtphigibhgldnpaaG18b
import Derived.Test.YtphigibhgldnpaaG19a
set_option linter.unusedVariables false
namespace Go.Proofs.Ytphigibhgldnpaa
set_option linter.unusedVariables false
open Go.RowKit
set_option maxRecDepth 20000
set_option maxHeartbeats 800000 in
theorem do_down (b q : Nat) (G : Nat → Prop) (w : World) (u : Us) (a : Ak) (h : UM b q G w u) (hd : u.down = true) :
    Calls Try.prog 83 #[ptrV b, askV a] w fun e w' => e = .returned (anV 45 0 noS 0) ∧ Leaves (UM b q) G w w' u := by
  obtain ⟨k, un, ep, pg, sz, n, s, pe, L, ao, cap⟩ := a
  obtain ⟨p, ue, dn⟩ := u
  simp only at *
  have CC := Lib.hid coded_ag
  have HS := Lib.hid (boxed_start (um_thing b q) h #[.int .i64 k, .int .i64 un, .int .i64 ep, .int .i64 pg, .int .i64 sz, .int .i64 n, .string s, .int .i64 pe, .slice ao L.length cap])
  unfold zeroAn at HS
  have hbw := h.small
  subst hd
  obtain ⟨c0, c1, c2, _⟩ := three_cells h.cells
  clear h
  show Calls _ _ #[.pointer (some ⟨b, 0, none⟩), .agg #[.int .i64 k, .int .i64 un, .int .i64 ep, .int .i64 pg, .int .i64 sz, .int .i64 n, .string s, .int .i64 pe, .slice ao L.length cap]] w _
  go_enter Try.func83, Try.ntmps83
  go_wp2_with (go_at_call 84; refine (CC.out _ _).mono ?_; rintro e w3 ⟨rfl, hb3⟩; have HT3 := Lib.hid (HS.out.below (um_thing b q) hb3); clear hb3; obtain ⟨nl1, nl2⟩ := HT3.out.small; obtain ⟨⟨ny0, ny1, ny2, ny3, ny4, ny5, ny6, ny7⟩, nfy0, nfy1, nfy2, nfy3, nfy4, nfy5, nfy6, nfy7⟩ := eight_cells HT3.out.ans)
  exact ans_ret (x := anP (45) (0) noS 0) (ao := none) (cap := 0) rfl (HT3.out.fin (um_thing b q)).1 rfl rfl ⟨rfl, (HT3.out.fin (um_thing b q)).2⟩
/-- no thing at all -/
def noThing (G : Nat → Prop) (w : World) (_ : Unit) : Prop := ∀ k, ¬ G k
theorem noThing_thing : Thing noThing where
  lt := fun h k hk => absurd hk (h k)
  keep := fun h _ _ => h
theorem noThing_below {w w' : World} (h : Leaves noThing (fun _ => False) w w' ()) : Below w.heap.size w w' := by
  obtain ⟨_, _, hk, _⟩ := h
  exact hk.toBelow (Nat.le_refl _) (fun k _ h => h)
set_option maxHeartbeats 800000 in
theorem do_nil (w : World) (a : Ak) (h : AkIn w a) :
    Calls Try.prog 83 #[.pointer none, askV a] w fun e w' => e = .returned (anV 1 0 noS 0) ∧ Below w.heap.size w w' := by
  obtain ⟨k, un, ep, pg, sz, n, s, pe, L, ao, cap⟩ := a
  have CC := Lib.hid coded_ag
  have HS := Lib.hid (boxed_start noThing_thing (T := noThing) (G := fun _ => False) (w := w) (s := ()) (fun _ h => h) #[.int .i64 k, .int .i64 un, .int .i64 ep, .int .i64 pg, .int .i64 sz, .int .i64 n, .string s, .int .i64 pe, .slice ao L.length cap])
  unfold zeroAn at HS
  clear h
  show Calls _ _ #[.pointer none, .agg #[.int .i64 k, .int .i64 un, .int .i64 ep, .int .i64 pg, .int .i64 sz, .int .i64 n, .string s, .int .i64 pe, .slice ao L.length cap]] w _
  go_enter Try.func83, Try.ntmps83
  go_wp2_with (go_at_call 84; refine (CC.out _ _).mono ?_; rintro e w3 ⟨rfl, hb3⟩; have HT3 := Lib.hid (HS.out.below noThing_thing hb3); clear hb3; obtain ⟨nl1, nl2⟩ := HT3.out.small; obtain ⟨⟨ny0, ny1, ny2, ny3, ny4, ny5, ny6, ny7⟩, nfy0, nfy1, nfy2, nfy3, nfy4, nfy5, nfy6, nfy7⟩ := eight_cells HT3.out.ans)
  exact ans_ret (x := anP 1 0 noS 0) (ao := none) (cap := 0) rfl (HT3.out.fin noThing_thing).1 rfl rfl ⟨rfl, noThing_below (HT3.out.fin noThing_thing).2⟩
set_option maxHeartbeats 800000 in
theorem do_up (b q : Nat) (G : Nat → Prop) (w : World) (u u' : Us) (a : Ak) (c m : Int) (z : ByteArray) (h : UM b q G w u) (hd : u.down = false)
    (hf : ∀ (H : Nat → Prop) (w : World), UM b q H w u → Calls Try.prog 85 #[ptrV b, askV a] w fun e w' => e = .returned (anV c m z 0) ∧ Leaves (UM b q) H w w' u') :
    Calls Try.prog 83 #[ptrV b, askV a] w fun e w' => e = .returned (anV c m z u'.epoch) ∧ Leaves (UM b q) G w w' u' := by
  obtain ⟨k, un, ep, pg, sz, n, s, pe, L, ao, cap⟩ := a
  obtain ⟨p, ue, dn⟩ := u
  simp only at *
  have CC := Lib.hid coded_ag
  have HS := Lib.hid (boxed_start (um_thing b q) h #[.int .i64 k, .int .i64 un, .int .i64 ep, .int .i64 pg, .int .i64 sz, .int .i64 n, .string s, .int .i64 pe, .slice ao L.length cap])
  unfold zeroAn at HS
  have hbw := h.small
  subst hd
  have HF := Lib.hid (show ∀ (H : Nat → Prop) (w : World), UM b q H w ⟨p, ue, false⟩ → Calls Try.prog 85 #[.pointer (some ⟨b, 0, none⟩), .agg #[.int .i64 k, .int .i64 un, .int .i64 ep, .int .i64 pg, .int .i64 sz, .int .i64 n, .string s, .int .i64 pe, .slice ao L.length cap]] w fun e w' => e = .returned (.agg #[.int .i64 c, .int .i64 m, .string z, .int .i64 0, .slice none 0 0, .int .i64 0, .int .i64 0, .int .i64 0]) ∧ Leaves (UM b q) H w w' u' from hf)
  clear hf
  obtain ⟨c0, c1, c2, _⟩ := three_cells h.cells
  obtain ⟨H2, hH2, hU2⟩ := HS.out.use
  have HU2 := Lib.hid hU2
  have HF2 := Lib.hid (HF.out H2 _ hH2)
  clear h hU2 hH2
  show Calls _ _ #[.pointer (some ⟨b, 0, none⟩), .agg #[.int .i64 k, .int .i64 un, .int .i64 ep, .int .i64 pg, .int .i64 sz, .int .i64 n, .string s, .int .i64 pe, .slice ao L.length cap]] w _
  go_enter Try.func83, Try.ntmps83
  go_wp2_with fail
  refine HF2.out.mono ?_
  rintro e w3 ⟨rfl, hl⟩
  have HT3 := Lib.hid (HU2.out _ _ hl)
  clear hl c0 c1 c2
  obtain ⟨H, hH, _⟩ := HT3.out.use
  obtain ⟨c0, c1, c2, _⟩ := three_cells hH.cells
  have hb := hH.small
  clear hH
  obtain ⟨nl1, nl2⟩ := HT3.out.small
  obtain ⟨⟨ny0, ny1, ny2, ny3, ny4, ny5, ny6, ny7⟩, nfy0, nfy1, nfy2, nfy3, nfy4, nfy5, nfy6, nfy7⟩ := eight_cells HT3.out.ans
  go_wp2_with fail
  exact ans_ret (x := anP c m z u'.epoch) (ao := none) (cap := 0) rfl (below_heap ((Below.refl _ _).alloc (Nat.le_refl _) _) (HT3.out.fin (um_thing b q)).1) rfl rfl ⟨rfl, (HT3.out.fin (um_thing b q)).2.below (um_thing b q) ((Below.refl _ _).alloc (Nat.le_refl _) _)⟩
theorem un_ask (b q : Nat) (G : Nat → Prop) (w : World) (u : Us) (a : Ak) (h : UM b q G w u) (ha : AkIn w a) (hs : a.data.size ≤ 1000000) :
    Calls Try.prog 83 #[ptrV b, askV a] w fun e w' => e = .returned (anV (u.ans a).code (u.ans a).n (u.ans a).data (u.ans a).epoch) ∧ Leaves (UM b q) G w w' (u.done a) := by
  by_cases hd : u.down = true
  · rw [show u.ans a = anP 45 0 noS 0 from if_pos hd, show u.done a = u from if_pos (.inl hd)]
    exact do_down b q G w u a h hd
  have hd' : u.down = false := Bool.eq_false_iff.2 hd
  by_cases hk : a.kind < 1 ∨ 5 < a.kind
  · rw [show u.ans a = anP 1 0 noS u.epoch from by unfold Us.ans; rw [if_neg hd, if_pos hk], show u.done a = u from if_pos (.inr (.inl hk))]
    exact do_up b q G w u u a 1 0 noS h hd' (fun H w h => answer_none b q H w u a h hk)
  have hk5 : a.kind = 1 ∨ a.kind = 2 ∨ a.kind = 3 ∨ a.kind = 4 ∨ a.kind = 5 := by omega
  by_cases he : a.epoch < u.epoch
  · rw [show u.ans a = anP 40 0 noS u.epoch from by unfold Us.ans; rw [if_neg hd, if_neg hk, if_pos he], show u.done a = u from if_pos (.inr (.inr he))]
    refine do_up b q G w u u a 40 0 noS h hd' (fun H w h => ?_)
    rcases hk5 with e | e | e | e | e
    · exact answer_sealed b q H w u a _ h (by rw [e]; exact deed_1) he
    · exact answer_sealed b q H w u a _ h (by rw [e]; exact deed_2) he
    · exact answer_sealed b q H w u a _ h (by rw [e]; exact deed_3) he
    · exact answer_sealed b q H w u a _ h (by rw [e]; exact deed_4) he
    · exact answer_sealed b q H w u a _ h (by rw [e]; exact deed_5) he
  have hx : ¬ (u.down = true ∨ (a.kind < 1 ∨ 5 < a.kind) ∨ a.epoch < u.epoch) := fun h => h.elim hd (fun h => h.elim hk he)
  rcases hk5 with e | e | e | e | e
  · rw [show u.ans a = anP (u.p.writeE a.page a.data) 0 noS u.epoch from by unfold Us.ans; rw [if_neg hd, if_neg hk, if_neg he, if_neg (by omega), if_neg (by omega)]; unfold Us.pageE; rw [if_pos e], show u.done a = ⟨u.p.write a.page a.data, u.epoch, u.down⟩ from by unfold Us.done; rw [if_neg hx, if_neg (by omega)]; unfold Us.pageP; rw [if_pos e]]
    exact do_up b q G w u _ a _ 0 noS h hd' (fun H w h => answer_write b q H w u _ a e _ _ _ h he (fun H w h => un_write b q H w u a h hs))
  · rw [show u.ans a = anP (u.p.fillE a.page) 0 noS u.epoch from by unfold Us.ans; rw [if_neg hd, if_neg hk, if_neg he, if_neg (by omega), if_neg (by omega)]; unfold Us.pageE; rw [if_neg (by omega), if_pos e], show u.done a = ⟨u.p.fill a.page, u.epoch, u.down⟩ from by unfold Us.done; rw [if_neg hx, if_neg (by omega)]; unfold Us.pageP; rw [if_neg (by omega), if_pos e]]
    exact do_up b q G w u _ a _ 0 noS h hd' (fun H w h => answer_fill b q H w u _ a e _ _ _ h he (fun H w h => un_fill b q H w u a h))
  · rw [show u.ans a = anP (u.p.readE a.page) 0 (u.p.readS a.page) u.epoch from by unfold Us.ans; rw [if_neg hd, if_neg hk, if_neg he, if_neg (by omega), if_pos e]; unfold Us.pageE; rw [if_neg (by omega), if_neg (by omega), if_pos e], show u.done a = ⟨u.p, u.epoch, u.down⟩ from by unfold Us.done; rw [if_neg hx, if_neg (by omega)]; unfold Us.pageP; rw [if_neg (by omega), if_neg (by omega), if_pos e]]
    exact do_up b q G w u _ a _ 0 _ h hd' (fun H w h => answer_read b q H w u _ a e _ _ _ h he (fun H w h => un_read b q H w u a h))
  · rw [show u.ans a = anP (Ps.trimE a.page) 0 noS u.epoch from by unfold Us.ans; rw [if_neg hd, if_neg hk, if_neg he, if_neg (by omega), if_neg (by omega)]; unfold Us.pageE; rw [if_neg (by omega), if_neg (by omega), if_neg (by omega)], show u.done a = ⟨u.p.trim a.page, u.epoch, u.down⟩ from by unfold Us.done; rw [if_neg hx, if_neg (by omega)]; unfold Us.pageP; rw [if_neg (by omega), if_neg (by omega), if_neg (by omega)]]
    exact do_up b q G w u _ a _ 0 noS h hd' (fun H w h => answer_trim b q H w u _ a e _ _ _ h he (fun H w h => un_trim b q H w u a h ha.1.page))
  · rw [show u.ans a = anP 0 u.p.tail noS a.epoch from by unfold Us.ans; rw [if_neg hd, if_neg hk, if_neg he, if_pos e], show u.done a = ⟨u.p, a.epoch, u.down⟩ from by unfold Us.done; rw [if_neg hx, if_pos e]]
    exact do_up b q G w u _ a 0 _ noS h hd' (fun H w h => answer_seal b q H w u _ a e _ _ _ h he (fun H w h => un_seal b q H w u a h ha.1.epoch))
theorem UM.page {b q : Nat} {G : Nat → Prop} {w : World} {u : Us} (h : UM b q G w u) : u.p.Ok ∧ ∃ F : Nat → Prop, PGm F w q u.p := by
  obtain ⟨⟨k1, _⟩, _, _, F, k5, _⟩ := h
  exact ⟨k1, F, k5⟩
theorem unitSays : UnitSays UM where
  thing := um_thing
  ok := fun h => h.1
  new_yes := fun room w hr => un_new_yes room w hr
  new_no := fun room w hr hw => un_new_no room w hr hw
  ask := fun b pb G w u a h ha hs => un_ask b pb G w u a h ha hs
  epoch := fun b pb G w u h => calls_same (un_epoch b pb G w u h)
  pages := fun b pb G w u h => calls_same (un_pages b pb G w u h)
  used := fun b pb G w u h => by obtain ⟨hok, F, hF⟩ := h.page; exact pageSays.used F w pb u.p hF hok
  tail := fun b pb G w u h => by obtain ⟨hok, F, hF⟩ := h.page; exact pageSays.tail F w pb u.p hF hok
  nil_ask := fun a w ha _ => do_nil w a ha
  nil_epoch := fun w => calls_same (un_epoch_nil w)
  nil_pages := fun w => calls_same (un_pages_nil w)
end Go.Proofs.Ytphigibhgldnpaa
namespace Go.Proofs.Ytphigibhgldnpaa
set_option linter.unusedVariables false
open Go.RowKit
set_option maxRecDepth 20000
theorem units_16 {ep : Int} {L : List (List Int)} (h : goodB ep L = true) : (unitsR L).length ≤ 16 := by
  obtain ⟨_, h2, h3, _⟩ := goodB_iff.1 h
  have h4 := (insAll_length [] L.flatten List.Pairwise.nil).1
  have h5 := flat_le L 4 (fun c hc => (chainB_iff.1 (h3 c hc)).1.2)
  have h6 : 4 * L.length ≤ 4 * 4 := Nat.mul_le_mul_left _ h2.2
  unfold unitsR
  rw [List.length_nil] at h4
  omega
theorem done_used (y : Ly) (a : Ak) : (y.done a).used.length ≤ y.used.length + 16 := by
  unfold Ly.done
  split
  · split
    · next h =>
      have := units_16 (may_good h)
      simp
      omega
    · omega
  · split
    · exact Nat.le_add_right _ _
    · omega
/-- chains that an answer tells are few -/
theorem ans_small {y : Ly} (h : goodB y.ep y.L = true) (a : Ak) : (y.ans a).L.length ≤ 255 ∧ ∀ c ∈ (y.ans a).L, c.length ≤ 255 := by
  have h0 : (([] : List (List Int)).length ≤ 255 ∧ ∀ c ∈ ([] : List (List Int)), c.length ≤ 255) := ⟨Nat.zero_le _, fun c hc => (by cases hc)⟩
  unfold Ly.ans
  split
  · exact good_small h
  · split
    · split
      · next hm => exact good_small (may_good hm)
      · exact good_small h
    · split
      · split
        · exact h0
        · split <;> exact h0
      · exact h0
theorem done_good {y : Ly} (h : goodB y.ep y.L = true) (a : Ak) : goodB (y.done a).ep (y.done a).L = true := by
  unfold Ly.done
  split
  · split
    · next hm => exact may_good hm
    · exact h
  · split <;> exact h
end Go.Proofs.Ytphigibhgldnpaa
