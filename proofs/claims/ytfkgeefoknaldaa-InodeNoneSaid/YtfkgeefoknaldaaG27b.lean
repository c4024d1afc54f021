/- Stage 20: what the program's own All and Next return: the numbers of the inodes, rising. Conditions: the table lies where the call was told; numbers of 64 bits. -/
import Derived.Test.YtfkgeefoknaldaaG26a
import Derived.Test.YtfkgeefoknaldaaG06a
import Derived.Test.YtfkgeefoknaldaaShelf
set_option linter.unusedVariables false
namespace Go.Proofs.Ytfkgeefoknaldaa
open Go.RowKit Go.Maps Go.Sort Go.Shelf
set_option linter.unusedVariables false
set_option maxRecDepth 20000
theorem isorts_any (m : Nat) : AnyZI.SortsIn Try.prog Try.sortedI_ren Fence.wide m :=
  ⟨fun blk off cap ss W hH hblk hsz => callsIn_wide.2 (Try.slices_Sort_int blk off cap ss W hH hblk hsz), fun p cap W => callsIn_wide.2 (Try.slices_Sort_int_none p cap W)⟩
theorem ikeys_any (m : Nat) (w : World) : Calls Try.prog 50 #[.map (some m)] w fun e w' => e = .returned (.func (.func 69) #[] #[.pointer (some ⟨w.heap.size, 0, none⟩)]) ∧ w' = w.alloc (.cells #[.map (some m)] 69) :=
  callsIn_wide.1 (AnyZI.keys_in Try.keysI Fence.wide 5 trivial rfl (some m) w)
theorem isorted_any {H : Type} (b nn : Nat) (D0 : DataW H) (R : Value → Option (DataW H × List MemPlace)) (w : World) (hown : w.ownsMap Try.prog 3 R b nn D0) (hmax : Maps.size D0 ≤ 1000000) :
    Calls Try.prog 49 #[.func (.func 69) #[] #[.pointer (some ⟨w.heap.size, 0, none⟩)]] (w.alloc (.cells #[.map (some b)] 69)) fun e w' => ∃ (v : Value) (ss : List Int), e = .returned v ∧ ss.Perm (intKeys D0) ∧
      w'.ownsRow (w.alloc (.cells #[.map (some b)] 69)).heap.size 3 1 v ss.length ((ss.mergeSort (fun x y => decide (x ≤ y))).map encZ) ∧ (v = .slice none 0 0 ↔ ss = []) ∧ Below (w.alloc (.cells #[.map (some b)] 69)).heap.size (w.alloc (.cells #[.map (some b)] 69)) w' := by
  have hbl := hown.lt
  have hseq : SeqGives Fence.wide 2 Try.prog 69 #[.pointer (some ⟨w.heap.size, 0, none⟩)] encZ (fun ss => ss.Perm (intKeys D0)) (Maps.size D0) (w.alloc (.cells #[.map (some b)] 69)) :=
    AnyZI.keys_gives (ρ := Try.keysI_ren) { Try.keysI with } Fence.wide _ trivial rfl (by omega) w.heap.size b nn D0 _ (by simp) (by simp) (by
      obtain ⟨es, clock, hb, Ft, hs, hD⟩ := hown
      exact ⟨es, clock, (Below.heap_alloc _ _ b hbl).trans hb, Ft, hs, hD⟩)
  exact callsIn_wide.1 (AnyZI.sorted_in Try.sortedI Fence.wide 5 trivial trivial trivial trivial rfl (by omega) (isorts_any _) (enters_of Try.func68 (by kernel_rfl) rfl) 69 #[.pointer (some ⟨w.heap.size, 0, none⟩)] trivial (enters_of Try.func69 (by kernel_rfl) rfl) _ _ (by unfold maxLen; omega) (by omega) _ hseq)
/-- the map's keys, sorted, are the numbers, where these rise -/
theorem MI.keys {w : World} {m n : Nat} {l : List Iv} {D : DataW Value} (ho : w.ownsMap Try.prog 3 heldR m n D) (h : MI D l) (hp : (l.map (·.x)).Pairwise (fun x y => x.ino < y.ino)) (hw : ∀ y ∈ l, (Lit.int .i64 y.x.ino).wf = true) {ss : List Int} (hs : ss.Perm (intKeys D)) :
    ss.mergeSort (fun x y => decide (x ≤ y)) = l.map (fun y => y.x.ino) := by
  obtain ⟨es, hD, hko⟩ := ho.keysOf
  subst hD
  have hr : (l.map (fun y => y.x.ino)).Pairwise (· < ·) := by
    rw [List.pairwise_map] at hp ⊢
    exact hp
  have hnd : (l.map (fun y => y.x.ino)).Nodup := hr.imp (fun {a b} h e => by omega)
  obtain ⟨es2, hE, hpw, _⟩ := ho.entries nint_law
  injection hE with hE
  subst hE
  have hq : (l.map (fun y => y.x.ino)).Perm (intKeys (.map es)) := perm_intKeys hpw (fun p hp => by
    obtain ⟨v, hv⟩ := hko p hp
    obtain ⟨x, _, hx, _⟩ := Maps.keyOf_i64 Try.underlying3 hv
    exact ⟨x, hx⟩) hnd (fun x => by
    constructor
    · intro hx
      obtain ⟨y, hy, rfl⟩ := List.mem_map.1 hx
      rw [h.hs _ (hw y hy)]
      cases e : getV l y.x.ino with
      | none => exact absurd rfl (getV_none e y hy)
      | some z => rfl
    · intro hx
      have hwf : (Lit.int .i64 x).wf = true := by
        rw [has_eq, List.any_eq_true] at hx
        obtain ⟨p, hp, hk⟩ := hx
        obtain ⟨v, hv⟩ := hko p hp
        obtain ⟨z, _, hz, hzw⟩ := Maps.keyOf_i64 Try.underlying3 hv
        rw [hz] at hk
        have : z = x := by simpa [Lit.sameKey] using hk
        rw [← this]
        exact hzw
      rw [h.hs x hwf] at hx
      obtain ⟨y, hy⟩ := Option.isSome_iff_exists.1 hx
      exact List.mem_map.2 ⟨y, (getV_is hy).1, (getV_is hy).2⟩)
  rw [mergeSort_of_perm_i (hs.trans hq.symm)]
  exact List.mergeSort_of_pairwise (hr.imp (fun {a b} h => decide_eq_true (Int.le_of_lt h)))
set_option maxHeartbeats 4000000 in
theorem pall_any {w : World} {b m : Nat} {l : List Iv} {next : Int} (h : PTab w b m l next) (hl : l.length ≤ 1000000) (hp : (l.map (·.x)).Pairwise (fun x y => x.ino < y.ino)) (hw : ∀ y ∈ l, (Lit.int .i64 y.x.ino).wf = true) :
    Calls Try.prog 29 #[.pointer (some ⟨b, 0, none⟩)] w fun e w' => ∃ v, e = .returned v ∧ OI w' w.heap.size v (l.map (fun y => y.x.ino)) ∧ Below w.heap.size w w' := by
  obtain ⟨c0, c1, f0, f1, hb⟩ := h.cells
  obtain ⟨D, hD, hM⟩ := h.map
  have CK := Lib.hid (ikeys_any m w)
  have CS := Lib.hid (isorted_any m _ D heldR w hD (by rw [hM.size]; exact hl))
  have HK := Lib.hid (fun ss hs => MI.keys (ss := ss) hD hM hp hw hs)
  have HW := Lib.hid (show wfL (l.map (fun y => y.x.ino)) from fun u hu => by
    obtain ⟨y, hy, rfl⟩ := List.mem_map.1 hu
    exact hw y hy)
  have HB := Lib.hid (blwA w (.cells #[.map (some m)] 69))
  clear h hD hM hp hw
  go_enter Try.func29, Try.ntmps29
  go_wp2_with (first
    | (go_at_call 50; with_reducible refine CK.out.mono ?_; rintro e w1 ⟨rfl, rfl⟩)
    | (go_at_call 49; with_reducible refine CS.out.mono ?_; rintro e w2 ⟨v, ss, rfl, hs, hrow, _, hb2⟩; have HR := Lib.hid (HK.out ss hs); have HRW := Lib.hid hrow; have HB2 := Lib.hid (blwO hb2 HB.out); clear hs hrow hb2))
  go_ret
  have hrow := HRW.out
  rw [HR.out] at hrow
  have hlen : ss.length = (l.map (fun y => y.x.ino)).length := by rw [← HR.out]; exact (List.mergeSort_perm ss _).length_eq.symm
  rw [hlen] at hrow
  exact ⟨v, rfl, (show OI w2 _ v _ from ⟨hrow, HW.out⟩).lower HB.out.size, HB2.out⟩
theorem pall_nil (w : World) : Calls Try.prog 29 #[.pointer none] w fun e w' => e = .returned (.slice none 0 0) ∧ w = w' := by
  go_enter Try.func29, Try.ntmps29
  go_wp2_with fail
  go_ret
  exact ⟨rfl, rfl⟩
theorem pnext_any {w : World} {b m : Nat} {l : List Iv} {next : Int} (h : PTab w b m l next) : Calls Try.prog 18 #[.pointer (some ⟨b, 0, none⟩)] w fun e w' => e = .returned (.int .i64 next) ∧ w = w' := by
  obtain ⟨c0, c1, f0, f1, hb⟩ := h.cells
  clear h
  go_enter Try.func18, Try.ntmps18
  go_wp2_with fail
  go_ret
  exact ⟨rfl, rfl⟩
theorem pnext_nil (w : World) : Calls Try.prog 18 #[.pointer none] w fun e w' => e = .returned (.int .i64 0) ∧ w = w' := by
  go_enter Try.func18, Try.ntmps18
  go_wp2_with fail
  go_ret
  exact ⟨rfl, rfl⟩
end Go.Proofs.Ytfkgeefoknaldaa
