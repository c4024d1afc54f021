/- What Same tells of two records (written by gen/gensame.py). Conditions: the moves lie where the call was told; at most 1000000 of them. What fieldsOf tells of any record: its fields, or that there is no such kind. Conditions: the record's cells lie where the call was told. What Good tells of any record. Conditions: the moves lie where the call was told; sizes of at most 1000000. What Good tells of any record: the kinds that there are. Conditions: the moves lie where the call was told; sizes of at most 1000000. -/
import Derived.Test.YthileemkiplodaaJFldQ1
import Derived.Test.YthileemkiplodaaGs
import Derived.Test.YthileemkiplodaaGr
import Derived.Test.YthileemkiplodaaGm
import Derived.Test.YthileemkiplodaaGp
import Derived.Test.YthileemkiplodaaGq
import Derived.Test.YthileemkiplodaaHa
import Derived.Test.YthileemkiplodaaGx
set_option linter.unusedVariables false
namespace Go.Proofs.Ythileemkiplodaa
open Go.RowKit

theorem same_any (a b : Rec) (ao bo : Option Addr) (ca cb : Nat) (w : World) (la : a.moves.length ≤ 1000000) (lb : b.moves.length ≤ 1000000) (hA : VL w ao a.moves) (hB : VL w bo b.moves) :
    Calls Try.prog 18 #[.agg (recA a (.slice ao a.moves.length ca)), .agg (recA b (.slice bo b.moves.length cb))] w fun e w' => e = .returned (.bool (a.same b)) ∧ Below w.heap.size w w' := by
  by_cases h0 : a.client = b.client
  rotate_left
  · rw [same_no (fun e => h0 (by rw [e]))]
    exact same_part0 a b ao bo ca cb w (beq_eq_false_iff_ne.2 h0)
  by_cases h1 : a.seq = b.seq
  rotate_left
  · rw [same_no (fun e => h1 (by rw [e]))]
    exact same_part1 a b ao bo ca cb w (beq_iff_eq.2 h0) (beq_eq_false_iff_ne.2 h1)
  by_cases h2 : a.kind = b.kind
  rotate_left
  · rw [same_no (fun e => h2 (by rw [e]))]
    exact same_part2 a b ao bo ca cb w (beq_iff_eq.2 h0) (beq_iff_eq.2 h1) (beq_eq_false_iff_ne.2 h2)
  by_cases h3 : a.path = b.path
  rotate_left
  · rw [same_no (fun e => h3 (by rw [e]))]
    exact same_part3 a b ao bo ca cb w (beq_iff_eq.2 h0) (beq_iff_eq.2 h1) (beq_iff_eq.2 h2) (str_ne h3)
  by_cases h4 : a.dest = b.dest
  rotate_left
  · rw [same_no (fun e => h4 (by rw [e]))]
    exact same_part4 a b ao bo ca cb w (beq_iff_eq.2 h0) (beq_iff_eq.2 h1) (beq_iff_eq.2 h2) (by rw [h3, beq_iff_eq]) (str_ne h4)
  by_cases h5 : a.size = b.size
  rotate_left
  · rw [same_no (fun e => h5 (by rw [e]))]
    exact same_part5 a b ao bo ca cb w (beq_iff_eq.2 h0) (beq_iff_eq.2 h1) (beq_iff_eq.2 h2) (by rw [h3, beq_iff_eq]) (by rw [h4, beq_iff_eq]) (beq_eq_false_iff_ne.2 h5)
  by_cases h6 : a.handle = b.handle
  rotate_left
  · rw [same_no (fun e => h6 (by rw [e]))]
    exact same_part6 a b ao bo ca cb w (beq_iff_eq.2 h0) (beq_iff_eq.2 h1) (beq_iff_eq.2 h2) (by rw [h3, beq_iff_eq]) (by rw [h4, beq_iff_eq]) (beq_iff_eq.2 h5) (beq_eq_false_iff_ne.2 h6)
  by_cases h7 : a.off = b.off
  rotate_left
  · rw [same_no (fun e => h7 (by rw [e]))]
    exact same_part7 a b ao bo ca cb w (beq_iff_eq.2 h0) (beq_iff_eq.2 h1) (beq_iff_eq.2 h2) (by rw [h3, beq_iff_eq]) (by rw [h4, beq_iff_eq]) (beq_iff_eq.2 h5) (beq_iff_eq.2 h6) (beq_eq_false_iff_ne.2 h7)
  by_cases h8 : a.data = b.data
  rotate_left
  · rw [same_no (fun e => h8 (by rw [e]))]
    exact same_part8 a b ao bo ca cb w (beq_iff_eq.2 h0) (beq_iff_eq.2 h1) (beq_iff_eq.2 h2) (by rw [h3, beq_iff_eq]) (by rw [h4, beq_iff_eq]) (beq_iff_eq.2 h5) (beq_iff_eq.2 h6) (beq_iff_eq.2 h7) (str_ne h8)
  by_cases h9 : a.tick = b.tick
  rotate_left
  · rw [same_no (fun e => h9 (by rw [e]))]
    exact same_part9 a b ao bo ca cb w (beq_iff_eq.2 h0) (beq_iff_eq.2 h1) (beq_iff_eq.2 h2) (by rw [h3, beq_iff_eq]) (by rw [h4, beq_iff_eq]) (beq_iff_eq.2 h5) (beq_iff_eq.2 h6) (beq_iff_eq.2 h7) (by rw [h8, beq_iff_eq]) (beq_eq_false_iff_ne.2 h9)
  by_cases h10 : a.ino = b.ino
  rotate_left
  · rw [same_no (fun e => h10 (by rw [e]))]
    exact same_part10 a b ao bo ca cb w (beq_iff_eq.2 h0) (beq_iff_eq.2 h1) (beq_iff_eq.2 h2) (by rw [h3, beq_iff_eq]) (by rw [h4, beq_iff_eq]) (beq_iff_eq.2 h5) (beq_iff_eq.2 h6) (beq_iff_eq.2 h7) (by rw [h8, beq_iff_eq]) (beq_iff_eq.2 h9) (beq_eq_false_iff_ne.2 h10)
  rw [show a.same b = mvs a.moves b.moves by simp [Rec.same, h0, h1, h2, h3, h4, h5, h6, h7, h8, h9, h10]]
  exact same_part11 a b ao bo ca cb w la lb hA hB (beq_iff_eq.2 h0) (beq_iff_eq.2 h1) (beq_iff_eq.2 h2) (by rw [h3, beq_iff_eq]) (by rw [h4, beq_iff_eq]) (beq_iff_eq.2 h5) (beq_iff_eq.2 h6) (beq_iff_eq.2 h7) (by rw [h8, beq_iff_eq]) (beq_iff_eq.2 h9) (beq_iff_eq.2 h10)
end Go.Proofs.Ythileemkiplodaa
namespace Go.Proofs.Ythileemkiplodaa
open Go.RowKit
set_option maxRecDepth 20000

set_option maxHeartbeats 2000000 in
theorem fo_neg (b : Nat) (k : Int) (w : World) (hk : k < 0) (c2 : w.cell? ⟨b, 2, none⟩ = some (.int .i64 k)) :
    Calls Try.prog 20 #[ptr b] w fun e w' => e = .returned (.tuple #[.slice none 0 0, .bool false]) ∧ Below w.heap.size w w' := by
  have ck := kinds_any b
  have HI := Lib.hid (show (Try.prog.info? 70).map (·.size) = some 15 by kernel_rfl)
  go_enter Try.func20, Try.ntmps20
  go_wp2_with (first | (go_at_call 40; refine (ck _).mono ?_; rintro e w1 ⟨q, h, d, r, rfl, hq, hh, hd, hr, hb1⟩; have hA : (kindsA q h d r)[0]? = some .nilFunc := rfl; have HS := Lib.hid (kindsA_size q h d r); have HO := Lib.hid (kindsA_one q h d r); generalize kindsA q h d r = A at *) | (refine wpList_store_row (o := ⟨none, _, _, _, _, _⟩) ?a1 70 (.tmp 4) (.tmp 7) ?a2 w1.heap.size A ?a3 ?a4 70 (.replicate 15 .nilFunc) (heap_alloc_new w1 _) (by rw [HS.out]; exact HI.out) (by rw [HS.out]; rfl) HO.out ?a5; (case a1 => rfl); (case a2 => rfl); (case a3 => rfl); (case a4 => rfl); generalize hW2 : World.setRow _ _ _ = w2; have hA2 : w2.heap[w1.heap.size]? = some (.cells A 70 (0, 0)) := by {rw [← hW2]; exact setRow_heap _ _ _ _ _ _ (heap_alloc_new w1 _)}; have HB2 : Below w.heap.size w w2 := by {rw [← hW2]; exact setRow_below (hb1.alloc hb1.size _) hb1.size _}; have cA : w2.cell? ⟨w1.heap.size, 0, none⟩ = some .nilFunc := (cell_of hA2 0).trans hA; have d2 := cellB HB2 (block_lt_of_cell c2) c2; clear hW2 hA2))
  go_ret2
  exact ⟨rfl, HB2⟩
set_option maxHeartbeats 2000000 in
theorem fo_big (b : Nat) (k : Int) (w : World) (hk : 15 ≤ k) (c2 : w.cell? ⟨b, 2, none⟩ = some (.int .i64 k)) :
    Calls Try.prog 20 #[ptr b] w fun e w' => e = .returned (.tuple #[.slice none 0 0, .bool false]) ∧ Below w.heap.size w w' := by
  have ck := kinds_any b
  have HI := Lib.hid (show (Try.prog.info? 70).map (·.size) = some 15 by kernel_rfl)
  have h0 : ¬ k < 0 := by omega
  go_enter Try.func20, Try.ntmps20
  go_wp2_with (first | (go_at_call 40; refine (ck _).mono ?_; rintro e w1 ⟨q, h, d, r, rfl, hq, hh, hd, hr, hb1⟩; have hA : (kindsA q h d r)[0]? = some .nilFunc := rfl; have HS := Lib.hid (kindsA_size q h d r); have HO := Lib.hid (kindsA_one q h d r); generalize kindsA q h d r = A at *) | (refine wpList_store_row (o := ⟨none, _, _, _, _, _⟩) ?a1 70 (.tmp 4) (.tmp 7) ?a2 w1.heap.size A ?a3 ?a4 70 (.replicate 15 .nilFunc) (heap_alloc_new w1 _) (by rw [HS.out]; exact HI.out) (by rw [HS.out]; rfl) HO.out ?a5; (case a1 => rfl); (case a2 => rfl); (case a3 => rfl); (case a4 => rfl); generalize hW2 : World.setRow _ _ _ = w2; have hA2 : w2.heap[w1.heap.size]? = some (.cells A 70 (0, 0)) := by {rw [← hW2]; exact setRow_heap _ _ _ _ _ _ (heap_alloc_new w1 _)}; have HB2 : Below w.heap.size w w2 := by {rw [← hW2]; exact setRow_below (hb1.alloc hb1.size _) hb1.size _}; have cA : w2.cell? ⟨w1.heap.size, 0, none⟩ = some .nilFunc := (cell_of hA2 0).trans hA; have d2 := cellB HB2 (block_lt_of_cell c2) c2; clear hW2 hA2))
  go_ret2
  exact ⟨rfl, HB2⟩
set_option maxHeartbeats 2000000 in
theorem fo_zero (b : Nat) (k : Int) (w : World) (hk : k = 0) (c2 : w.cell? ⟨b, 2, none⟩ = some (.int .i64 k)) :
    Calls Try.prog 20 #[ptr b] w fun e w' => e = .returned (.tuple #[.slice none 0 0, .bool false]) ∧ Below w.heap.size w w' := by
  have ck := kinds_any b
  have HI := Lib.hid (show (Try.prog.info? 70).map (·.size) = some 15 by kernel_rfl)
  subst hk
  have hEq : ∀ (w : World), (binOp BinOp.eql 69 .nilFunc .nilFunc).run Try.prog w = .ok (.bool true) w := fun _ => rfl
  go_enter Try.func20, Try.ntmps20
  go_wp2_with (first | (go_at_call 40; refine (ck _).mono ?_; rintro e w1 ⟨q, h, d, r, rfl, hq, hh, hd, hr, hb1⟩; have hA : (kindsA q h d r)[0]? = some .nilFunc := rfl; have HS := Lib.hid (kindsA_size q h d r); have HO := Lib.hid (kindsA_one q h d r); generalize kindsA q h d r = A at *) | (refine wpList_store_row (o := ⟨none, _, _, _, _, _⟩) ?a1 70 (.tmp 4) (.tmp 7) ?a2 w1.heap.size A ?a3 ?a4 70 (.replicate 15 .nilFunc) (heap_alloc_new w1 _) (by rw [HS.out]; exact HI.out) (by rw [HS.out]; rfl) HO.out ?a5; (case a1 => rfl); (case a2 => rfl); (case a3 => rfl); (case a4 => rfl); generalize hW2 : World.setRow _ _ _ = w2; have hA2 : w2.heap[w1.heap.size]? = some (.cells A 70 (0, 0)) := by {rw [← hW2]; exact setRow_heap _ _ _ _ _ _ (heap_alloc_new w1 _)}; have HB2 : Below w.heap.size w w2 := by {rw [← hW2]; exact setRow_below (hb1.alloc hb1.size _) hb1.size _}; have cA : w2.cell? ⟨w1.heap.size, 0, none⟩ = some .nilFunc := (cell_of hA2 0).trans hA; have d2 := cellB HB2 (block_lt_of_cell c2) c2; clear hW2 hA2))
  go_ret2
  exact ⟨rfl, HB2⟩
theorem fieldsOf_no (b : Nat) (k : Int) (w : World) (hk : k < 1 ∨ 15 ≤ k) (c2 : w.cell? ⟨b, 2, none⟩ = some (.int .i64 k)) :
    Calls Try.prog 20 #[ptr b] w fun e w' => e = .returned (.tuple #[.slice none 0 0, .bool false]) ∧ Below w.heap.size w w' := by
  by_cases h1 : k < 0
  · exact fo_neg b k w h1 c2
  by_cases h2 : 15 ≤ k
  · exact fo_big b k w h2 c2
  · exact fo_zero b k w (by omega) c2
theorem fieldsOf_yes (b : Nat) (k sz : Int) (x : ByteArray) (w : World) (hk : 1 ≤ k ∧ k ≤ 14) (c2 : w.cell? ⟨b, 2, none⟩ = some (.int .i64 k)) (c5 : w.cell? ⟨b, 5, none⟩ = some (.int .i64 sz)) (c8 : w.cell? ⟨b, 8, none⟩ = some (.string x)) :
    Calls Try.prog 20 #[ptr b] w (FoTells w b (fun l => headD ++ kindD l k sz x.size)) := by
  rcases (by omega : k = 1 ∨ k = 2 ∨ k = 3 ∨ k = 4 ∨ k = 5 ∨ k = 6 ∨ k = 7 ∨ k = 8 ∨ k = 9 ∨ k = 10 ∨ k = 11 ∨ k = 12 ∨ k = 13 ∨ k = 14) with rfl | rfl | rfl | rfl | rfl | rfl | rfl | rfl | rfl | rfl | rfl | rfl | rfl | rfl
  · exact fo_one b 1 w (by decide) (fun _ _ _ _ => rfl) c2
  · exact fo_one b 2 w (by decide) (fun _ _ _ _ => rfl) c2
  · exact fo_one b 3 w (by decide) (fun _ _ _ _ => rfl) c2
  · exact fo_two b 4 w (by decide) (fun _ _ _ _ => rfl) c2
  · exact fo_one b 5 w (by decide) (fun _ _ _ _ => rfl) c2
  · exact fo_two b 6 w (by decide) (fun _ _ _ _ => rfl) c2
  · exact fo_trunc b 7 w (by decide) (fun _ _ _ _ => rfl) c2
  · exact fo_one b 8 w (by decide) (fun _ _ _ _ => rfl) c2
  · exact fo_close b 9 w (by decide) (fun _ _ _ _ => rfl) c2
  · exact fo_write b 10 w (by decide) (fun _ _ _ _ => rfl) c2
  · exact fo_tick b 11 w (by decide) (fun _ _ _ _ => rfl) c2
  · exact fo_tick b 12 w (by decide) (fun _ _ _ _ => rfl) c2
  · exact fo_move b 13 x w (by decide) (fun _ _ _ _ => rfl) c2 c8
  · exact fo_image b 14 x sz w (by decide) (fun _ _ _ _ => rfl) c2 c8 c5
end Go.Proofs.Ythileemkiplodaa
namespace Go.Proofs.Ythileemkiplodaa
open Go.RowKit
set_option maxRecDepth 20000

theorem goodO_kind {o : Rec} (h : o.kind < 1 ∨ 15 ≤ o.kind) : goodO o = false := by
  apply Bool.eq_false_iff.2
  intro hg
  have := form_kind (good_form hg)
  omega
theorem kindD_ok (l : Nat) (k sz : Int) (n : Nat) (hn : n ≤ 1000000) : ∀ f, f ∈ kindD l k sz n → f.ok := by
  intro f hf
  unfold kindD at hf
  repeat' split at hf
  all_goals simp only [List.mem_cons, List.not_mem_nil, or_false] at hf
  all_goals first
    | ((rcases hf with rfl | rfl | rfl) <;> simp [Fd.ok, isI, isT] <;> omega)
    | ((rcases hf with rfl | rfl) <;> simp [Fd.ok, isI, isT] <;> omega)
    | (subst hf; simp [Fd.ok, isI, isT])
    | exact hf.elim
theorem fieldsD_ok (l : Nat) (o : Rec) (hn : o.data.size ≤ 1000000) : ∀ f, f ∈ fieldsD l o → f.ok := by
  intro f hf
  unfold fieldsD at hf
  rcases List.mem_append.1 hf with h | h
  · simp only [headD, List.mem_cons, List.not_mem_nil, or_false] at h
    rcases h with rfl | rfl <;> simp [Fd.ok, isI]
  · exact kindD_ok l _ _ _ hn f h
theorem fieldsD_len (l : Nat) (o : Rec) : 1 ≤ (fieldsD l o).length ∧ (fieldsD l o).length ≤ 5 := by
  unfold fieldsD
  rw [List.length_append]
  have : (kindD l o.kind o.size o.data.size).length ≤ 3 := by
    unfold kindD
    repeat' split
    all_goals simp
  have : headD.length = 2 := rfl
  omega
theorem val_one (b : Nat) (f : Fd) : (f.val b).oneCell' = true := by cases f <;> rfl
/-- the list that fieldsOf tells, as a block of fields -/
theorem OL.list {S : Nat → Prop} {w : World} {base b : Nat} {v : Value} {L : List Fd} (h : OL w base v (L.map (Fd.val b))) (hne : 1 ≤ L.length) (hok : ∀ f, f ∈ L → f.ok) (hd : ∀ j l' x, Fd.data j l' x ∈ L → w.cell? ⟨l', 0, none⟩ = some (.int .i64 x) ∧ base ≤ l') (hS : ∀ k, base ≤ k → S k) :
    ∃ g cap, v = .slice (some ⟨g, 0, none⟩) L.length cap ∧ base ≤ g ∧ LF S w b g L := by
  rcases h.2 with ⟨rfl, h0⟩ | ⟨g, cap, cur, rfl, hbg, hh, hnc, hcm, hcs, ht⟩
  · rw [List.length_map] at h0; omega
  · refine ⟨g, cap, by rw [List.length_map], hbg, ⟨fun i hi => ?_, hok, fun j l x hm => ⟨(hd j l x hm).1, hS _ (hd j l x hm).2⟩, hS g hbg⟩⟩
    have := World.ownsRow.cells h (g := g) rfl i ((L[i]).val b) (by rw [List.getElem?_map, List.getElem?_eq_getElem hi]; rfl)
    rwa [addr_plus, Nat.zero_add] at this
theorem VLI.lt {w : World} {ao : Option Addr} {cap : Nat} {L : List Mv} (h : VLI w ao cap L) : ∀ a, ao = some a → L = [] ∨ a.block < w.heap.size := by
  intro a e
  cases L with
  | nil => exact .inl rfl
  | cons m L =>
    obtain ⟨bk, off, e2, x0, _⟩ := h.1 0 (by simp)
    rw [e] at e2
    cases e2
    exact .inr (block_lt_of_cell x0)
theorem RB.new {w : World} {o : Rec} {ao : Option Addr} {cap : Nat} (h : VLI w ao cap o.moves) : RB (w.alloc (.cells (recA o (.slice ao o.moves.length cap)) 24)) w.heap.size o :=
  ⟨ao, cap, heap_alloc_new _ _, h.below ((Below.refl _ _).alloc (Nat.le_refl _) _), fun a e => (h.lt a e).imp id Nat.ne_of_lt⟩
set_option maxHeartbeats 4000000 in
theorem good_bad (o : Rec) (ao : Option Addr) (cap : Nat) (w : World) (hk : o.kind < 1 ∨ 15 ≤ o.kind) :
    Calls Try.prog 13 #[.agg (recA o (.slice ao o.moves.length cap))] w fun e w' => e = .returned (.bool (goodO o)) ∧ Below w.heap.size w w' := by
  rw [goodO_kind hk]
  have HB := Lib.hid (fun (x : Obj) => show Below w.heap.size w (w.alloc x) from (Below.refl _ _).alloc (Nat.le_refl _) _)
  have HK := Lib.hid hk
  have HC := Lib.hid (cell_of (heap_alloc_new w (.cells (recA o (.slice ao o.moves.length cap)) 24)) 2)
  clear hk
  go_enter Try.func13, Try.ntmps13
  go_wp2_with (go_at_call 20; refine (fieldsOf_no w.heap.size o.kind _ HK.out HC.out).mono ?_; rintro e w1 ⟨rfl, hb1⟩)
  go_ret
  exact ⟨rfl, (HB.out _).trans (hb1.mono (HB.out _).size)⟩
end Go.Proofs.Ythileemkiplodaa
namespace Go.Proofs.Ythileemkiplodaa
open Go.RowKit
set_option maxRecDepth 20000

theorem list_true {o : Rec} {L : List Fd} {R : Bool} (hg : goodO o = (L.all (Fd.good o) && R)) (h : (L.take L.length).all (Fd.good o) = true) : goodO o = R := by
  rw [List.take_of_length_le (Nat.le_refl _)] at h
  rw [hg, h]
  rfl
theorem clear_len : ∀ (L : List Fd) (o : Rec), o.moves.length ≤ 1000000 → (L.foldl Fd.clear o).moves.length ≤ 1000000 := by
  intro L
  induction L with
  | nil => intro o h; exact h
  | cons f L ih =>
    intro o h
    rw [List.foldl_cons]
    apply ih
    cases f with
    | num j n lo hi => show (o.setI j 0).moves.length ≤ _; rw [setI_moves]; exact h
    | tick j n lo hi => show (o.setI j 0).moves.length ≤ _; rw [setI_moves]; exact h
    | path j => show (o.setT j _).moves.length ≤ _; rw [setT_moves]; exact h
    | data j l x => show (o.setT j _).moves.length ≤ _; rw [setT_moves]; exact h
    | mvs j d => exact Nat.zero_le _
set_option maxHeartbeats 3000000 in
theorem good_kind (o : Rec) (ao : Option Addr) (cap : Nat) (w : World) (hv : VLI w ao cap o.moves) (hs : smallR o) (hk : 1 ≤ o.kind ∧ o.kind ≤ 14) :
    Calls Try.prog 13 #[.agg (recA o (.slice ao o.moves.length cap))] w fun e w' => e = .returned (.bool (goodO o)) ∧ Below w.heap.size w w' := by
  have HB := Lib.hid (show Below w.heap.size w (w.alloc (.cells (recA o (.slice ao o.moves.length cap)) 24)) from (Below.refl _ _).alloc (Nat.le_refl _) _)
  have HK := Lib.hid hk
  have HS := Lib.hid hs
  have hbox := heap_alloc_new w (.cells (recA o (.slice ao o.moves.length cap)) 24)
  have C2 := Lib.hid (cell_of hbox 2)
  have C5 := Lib.hid (cell_of hbox 5)
  have C8 := Lib.hid (cell_of hbox 8)
  have HR0 := Lib.hid (RB.new hv)
  have HSZ := Lib.hid (show ∀ k, (w.alloc (.cells (recA o (.slice ao o.moves.length cap)) 24)).heap.size ≤ k → k ≠ w.heap.size from fun k h e => by rw [sz_alloc] at h; omega)
  clear hk hs hv hbox
  go_enter Try.func13, Try.ntmps13
  go_wp2_with (go_at_call 20; refine (fieldsOf_yes w.heap.size o.kind o.size o.data _ HK.out C2.out C5.out C8.out).mono ?_; rintro e w1 ⟨l, v, rfl, ho, hd, hb1⟩; obtain ⟨g, cp, rfl, hg, hL⟩ := OL.list (S := fun k => k ≠ w.heap.size) (L := fieldsD l o) ho (fieldsD_len l o).1 (fieldsD_ok l o HS.out.2.2.1) hd HSZ.out; have HG := Lib.hid (good_code l o HK.out); have HKD := Lib.hid (clear_kind l o); have hlen := (fieldsD_len l o).2; have HL := Lib.hid hL; have HB1 := Lib.hid hb1; clear ho hd hL hb1; generalize fieldsD l o = L at *)
  have HR1 := Lib.hid (HR0.out.below HB1.out)
  have HBW := Lib.hid (HB.out.trans (HB1.out.mono HB.out.size))
  clear C2 C5 C8 HK HSZ HB1 HR0 hg
  have hlen' : (L.length : Int) ≤ 5 := by omega
  go_loopw [17] (fun i wr => ∃ k : Nat, i = .int .i64 k ∧ k ≤ L.length ∧ Hid ((L.take k).all (Fd.good o) = true ∧ Below w1.heap.size w1 wr)) (fun i _ => L.length - (intOf i).toNat)
  case atStart => exact ⟨0, rfl, Nat.zero_le _, Lib.hid ⟨rfl, Below.refl _ _⟩⟩
  case round =>
    obtain ⟨k, rfl, hk, HT⟩ := hrel
    by_cases hlt : k < L.length
    · have hcell := (HL.out.keep (Kept.ofBelow HT.out.2 _)).cells k hlt
      obtain ⟨T, x, fn, hv, hT, hcall⟩ := asks_any HR1.out HL.out HS.out (List.getElem_mem hlt)
      have hc := hcall wr HT.out.2
      rw [hv] at hcell
      clear hcall hv
      cases hr : (L[k]).good o
      · rw [hr] at hc
        have HX := Lib.hid (show goodO o = false by rw [HG.out, all_no hlt hr]; rfl)
        have HBO := Lib.hid (HBW.out.trans (HT.out.2.mono HBW.out.size))
        clear hr HT
        rcases hT with ⟨rfl, rfl⟩ | ⟨rfl, rfl⟩ | ⟨rfl, rfl⟩ | ⟨rfl, rfl⟩
        · go_wp2_with (go_at_call 109; refine hc.mono ?_; rintro e w6 ⟨rfl, hb6⟩)
          go_ret
          rw [HX.out]
          exact ⟨rfl, HBO.out.trans (hb6.mono HBO.out.size)⟩
        · go_wp2_with (go_at_call 113; refine hc.mono ?_; rintro e w6 ⟨rfl, hb6⟩)
          go_ret
          rw [HX.out]
          exact ⟨rfl, HBO.out.trans (hb6.mono HBO.out.size)⟩
        · go_wp2_with (go_at_call 97; refine hc.mono ?_; rintro e w6 ⟨rfl, hb6⟩)
          go_ret
          rw [HX.out]
          exact ⟨rfl, HBO.out.trans (hb6.mono HBO.out.size)⟩
        · go_wp2_with (go_at_call 104; refine hc.mono ?_; rintro e w6 ⟨rfl, hb6⟩)
          go_ret
          rw [HX.out]
          exact ⟨rfl, HBO.out.trans (hb6.mono HBO.out.size)⟩
      · rw [hr] at hc
        have HX := Lib.hid (all_yes hlt HT.out.1 hr)
        have HBO := Lib.hid HT.out.2
        clear hr HT
        rcases hT with ⟨rfl, rfl⟩ | ⟨rfl, rfl⟩ | ⟨rfl, rfl⟩ | ⟨rfl, rfl⟩
        · go_wp2_with (go_at_call 109; refine hc.mono ?_; rintro e w6 ⟨rfl, hb6⟩)
          go_roundw
          case rel => exact ⟨k + 1, by go_num, by omega, Lib.hid ⟨HX.out, HBO.out.trans (hb6.mono HBO.out.size)⟩⟩
          case measure => simp [intOf]; omega
        · go_wp2_with (go_at_call 113; refine hc.mono ?_; rintro e w6 ⟨rfl, hb6⟩)
          go_roundw
          case rel => exact ⟨k + 1, by go_num, by omega, Lib.hid ⟨HX.out, HBO.out.trans (hb6.mono HBO.out.size)⟩⟩
          case measure => simp [intOf]; omega
        · go_wp2_with (go_at_call 97; refine hc.mono ?_; rintro e w6 ⟨rfl, hb6⟩)
          go_roundw
          case rel => exact ⟨k + 1, by go_num, by omega, Lib.hid ⟨HX.out, HBO.out.trans (hb6.mono HBO.out.size)⟩⟩
          case measure => simp [intOf]; omega
        · go_wp2_with (go_at_call 104; refine hc.mono ?_; rintro e w6 ⟨rfl, hb6⟩)
          go_roundw
          case rel => exact ⟨k + 1, by go_num, by omega, Lib.hid ⟨HX.out, HBO.out.trans (hb6.mono HBO.out.size)⟩⟩
          case measure => simp [intOf]; omega
    · obtain rfl : k = L.length := by omega
      have HLA := Lib.hid (HL.out.keep (Kept.ofBelow HT.out.2 _))
      have HRA := Lib.hid (HR1.out.below HT.out.2)
      have HBA := Lib.hid (HBW.out.trans (HT.out.2.mono HBW.out.size))
      have HGA := Lib.hid (list_true HG.out HT.out.1)
      clear HL HR1 HBW HG HT hlt hk
      generalize hwA : wr = wA at *
      go_wp2
      go_loopw [27] (fun i wr => ∃ k : Nat, i = .int .i64 k ∧ k ≤ L.length ∧ Hid (RB wr w.heap.size ((L.take k).foldl Fd.clear o) ∧ Kept (fun k => k ≠ w.heap.size) wA wr)) (fun i _ => L.length - (intOf i).toNat)
      case atStart => exact ⟨0, rfl, Nat.zero_le _, Lib.hid ⟨HRA.out, Kept.refl _ _⟩⟩
      case round =>
        obtain ⟨k, rfl, hk, HT⟩ := hrel
        by_cases hlt : k < L.length
        · have hcell := (HLA.out.keep HT.out.2).cells k hlt
          obtain ⟨T, x, fn, hv, hT, hcall⟩ := clears_any HLA.out (List.getElem_mem hlt)
          have hc := hcall _ wr HT.out
          rw [hv] at hcell
          have HSt := Lib.hid (fold_step L Fd.clear o hlt)
          clear hcall hv HT
          rcases hT with ⟨rfl, rfl⟩ | ⟨rfl, rfl⟩ | ⟨rfl, rfl⟩ | ⟨rfl, rfl⟩
          · go_wp2_with (go_at_call 108; refine hc.mono ?_; rintro e w6 ⟨rfl, h6⟩)
            go_roundw
            case rel => exact ⟨k + 1, by go_num, by omega, by rw [HSt.out]; exact Lib.hid h6⟩
            case measure => simp [intOf]; omega
          · go_wp2_with (go_at_call 112; refine hc.mono ?_; rintro e w6 ⟨rfl, h6⟩)
            go_roundw
            case rel => exact ⟨k + 1, by go_num, by omega, by rw [HSt.out]; exact Lib.hid h6⟩
            case measure => simp [intOf]; omega
          · go_wp2_with (go_at_call 96; refine hc.mono ?_; rintro e w6 ⟨rfl, h6⟩)
            go_roundw
            case rel => exact ⟨k + 1, by go_num, by omega, by rw [HSt.out]; exact Lib.hid h6⟩
            case measure => simp [intOf]; omega
          · go_wp2_with (go_at_call 103; refine hc.mono ?_; rintro e w6 ⟨rfl, h6⟩)
            go_roundw
            case rel => exact ⟨k + 1, by go_num, by omega, by rw [HSt.out]; exact Lib.hid h6⟩
            case measure => simp [intOf]; omega
        · obtain rfl : k = L.length := by omega
          obtain ⟨⟨ao2, cap2, h1, h2, h3⟩, hk2⟩ := HT.out
          rw [List.take_of_length_le (Nat.le_refl _)] at h1 h2 h3
          have hml : (L.foldl Fd.clear o).moves.length ≤ 1000000 := clear_len L o HS.out.2.2.2
          generalize L.foldl Fd.clear o = o2 at *
          have y2 : wr.cell? ⟨w.heap.size, 2, none⟩ = some (.int .i64 o2.kind) := cell_of h1 2
          have H1 := Lib.hid h1
          have H2 := Lib.hid h2
          have HKK := Lib.hid hk2
          have HML := Lib.hid hml
          have hkd := HKD.out
          have cs : ∀ w, VLI w ao2 cap2 o2.moves → Calls Try.prog 18 #[.agg (recA o2 (.slice ao2 o2.moves.length cap2)), .agg #[.int .i64 0, .int .i64 0, .int .i64 o2.kind, .string ⟨#[]⟩, .string ⟨#[]⟩, .int .i64 0, .int .i64 0, .int .i64 0, .string ⟨#[]⟩, .int .i64 0, .int .i64 0, .slice none 0 0]] w fun e w' => e = .returned (.bool (o2.same { rec0 with kind := o2.kind })) ∧ Below w.heap.size w w' :=
            fun w h => same_any o2 { rec0 with kind := o2.kind } ao2 none cap2 0 w hml (Nat.zero_le _) h.1 (VL.nil _ _)
          rw [hkd] at cs y2
          generalize o2.same { rec0 with kind := o.kind } = R at *
          clear h1 h2 h3 hk2 HT hml hlt hk
          go_wp2_with (first | (refine wpList_load_row (o := ⟨some 34, _, _, _, _, _⟩) ?d1 24 (.tmp 1) ?d2 w.heap.size ?d3 24 (recA o2 (.slice ao2 o2.moves.length cap2)) (0, 0) _ H1.out Try.underlying24 rfl (rec_info _ _) ?d4; (case d1 => rfl); (case d2 => rfl); (case d3 => rfl)) | (go_at_call 18; refine (cs _ H2.out).mono ?_; rintro e w6 ⟨rfl, hb6⟩))
          go_ret
          rw [HGA.out]
          have hb7 := HBA.out.trans (HKK.out.toBelow HBA.out.size (fun k h => Nat.ne_of_lt h))
          exact ⟨rfl, hb7.trans (hb6.mono hb7.size)⟩
end Go.Proofs.Ythileemkiplodaa
