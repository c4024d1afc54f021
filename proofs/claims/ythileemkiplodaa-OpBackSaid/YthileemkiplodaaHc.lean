/- What Good tells of any record; what Encode tells. Conditions: the moves lie where the call was told; sizes of at most 1000000. What taking a record's fields does. Conditions: the unpacker is as told, the record's block beside it; the text is no longer than 2^40 bytes. What Decode tells of a text of no kind (written by gen/gendecode.py). Conditions: the text is no longer than 1000000 bytes. -/
import Derived.Test.YthileemkiplodaaHb
import Derived.Test.YthileemkiplodaaHa
import Derived.Test.YthileemkiplodaaGd
set_option linter.unusedVariables false
namespace Go.Proofs.Ythileemkiplodaa
open Go.RowKit
set_option maxRecDepth 20000

theorem good_op (o : Rec) (ao : Option Addr) (cap : Nat) (w : World) (hv : VLI w ao cap o.moves) (hs : smallR o) :
    Calls Try.prog 13 #[.agg (recA o (.slice ao o.moves.length cap))] w fun e w' => e = .returned (.bool (goodO o)) ∧ Below w.heap.size w w' := by
  by_cases hk : 1 ≤ o.kind ∧ o.kind ≤ 14
  · exact good_kind o ao cap w hv hs hk
  · exact good_bad o ao cap w (by omega)
theorem OL.listLt {S : Nat → Prop} {w : World} {base b : Nat} {v : Value} {L : List Fd} (h : OL w base v (L.map (Fd.val b))) (hne : 1 ≤ L.length) (hok : ∀ f, f ∈ L → f.ok) (hd : ∀ j l' x, Fd.data j l' x ∈ L → w.cell? ⟨l', 0, none⟩ = some (.int .i64 x) ∧ base ≤ l') (hS : ∀ k, k < w.heap.size → S k) :
    ∃ g cap, v = .slice (some ⟨g, 0, none⟩) L.length cap ∧ base ≤ g ∧ LF S w b g L := by
  obtain ⟨g, cap, e, hb, hL⟩ := OL.list (S := fun _ => True) h hne hok hd (fun _ _ => trivial)
  have hne' : 0 < L.length := hne
  exact ⟨g, cap, e, hb, ⟨hL.cells, hL.ok, fun j l x hm => ⟨(hL.data j l x hm).1, hS _ (block_lt_of_cell (hL.data j l x hm).1)⟩, hS g (block_lt_of_cell (hL.cells 0 hne'))⟩⟩
theorem puts_any {S : Nat → Prop} {w0 : World} {b g p : Nat} {o : Rec} {L : List Fd} (hR : RB w0 b o) (hL : LF S w0 b g L) (hS : ∀ k, k < w0.heap.size → S k) (hs : smallR o) {f : Fd} (hf : f ∈ L) (hfit : f.fit o) :
    Does putFns (fun t w => PKs S w p t ∧ Kept S w0 w) p (f.val b) (fun t => f.put o t) := by
  have hok := hL.ok f hf
  have hb := hS b hR.lt
  cases f with
  | num j n lo hi => exact ⟨_, _, _, rfl, .inl ⟨rfl, rfl⟩, fun t w h => (nput_any S b j p t n lo hi (o.int j) w (cellK h.2 hb (hR.int hok.1)) h.1 hfit).mono fun _ _ ⟨he, h1, h2⟩ => ⟨he, h1, h.2.trans h2⟩⟩
  | tick j n lo hi => exact ⟨_, _, _, rfl, .inr (.inl ⟨rfl, rfl⟩), fun t w h => (kput_any S b j p t n lo hi (o.int j) w (cellK h.2 hb (hR.int hok.1)) h.1 hfit).mono fun _ _ ⟨he, h1, h2⟩ => ⟨he, h1, h.2.trans h2⟩⟩
  | path j => exact ⟨_, _, _, rfl, .inr (.inr (.inl ⟨rfl, rfl⟩)), fun t w h => (tput_any S b j p _ t (o.txt j) w (cellK h.2 hb (hR.txt hok)) h.1 (hs.txt j)).mono fun _ _ ⟨he, h1, h2⟩ => ⟨he, h1, h.2.trans h2⟩⟩
  | data j l x => exact ⟨_, _, _, rfl, .inr (.inr (.inl ⟨rfl, rfl⟩)), fun t w h => (tput_any S b j p _ t (o.txt j) w (cellK h.2 hb (hR.txt hok)) h.1 (hs.txt j)).mono fun _ _ ⟨he, h1, h2⟩ => ⟨he, h1, h.2.trans h2⟩⟩
  | mvs j d =>
    obtain ⟨rfl, _⟩ := hok
    obtain ⟨ao, cap, h1, h2, _⟩ := hR
    have hA : ∀ a, ao = some a → S a.block := fun a e => hS _ ((h2.lt a e).resolve_left hfit.2.1)
    refine ⟨_, _, _, rfl, .inr (.inr (.inr ⟨rfl, rfl⟩)), fun t w h => ?_⟩
    exact (mput_any S b 11 p d t ao cap o.moves w (cellK h.2 hb (cell_of h1 11)) (kept_row h2 h.2 hA) hb hA hfit.1 hfit.2.2 h.1).mono fun _ _ ⟨he, h3, h4⟩ => ⟨he, h3, h.2.trans h4⟩
theorem PK.start {S : Nat → Prop} {w : World} {b : Nat} (h : PK S w b ⟨#[]⟩ 0) : PKs S w b stE := h
set_option maxHeartbeats 3000000 in
theorem encode_any (o : Rec) (ao : Option Addr) (cap : Nat) (w : World) (hv : VLI w ao cap o.moves) (hs : smallR o) :
    Calls Try.prog 11 #[.agg (recA o (.slice ao o.moves.length cap))] w fun e w' => e = .returned (.tuple #[.string (encR o).1, .int .i64 (encR o).2]) ∧ Below w.heap.size w w' := by
  have HB := Lib.hid (show Below w.heap.size w (w.alloc (.cells (recA o (.slice ao o.moves.length cap)) 24)) from (Below.refl _ _).alloc (Nat.le_refl _) _)
  have HX := Lib.hid (heap_alloc_new w (.cells (recA o (.slice ao o.moves.length cap)) 24))
  have HV := Lib.hid (hv.below HB.out)
  have cg := good_op o ao cap _ HV.out hs
  cases hg : goodO o
  · rw [encR_no hg]
    rw [hg] at cg
    have CG := Lib.hid cg
    clear hg hv hs cg
    go_enter Try.func11, Try.ntmps11
    go_wp2_with (first | (refine wpList_load_row (o := ⟨some 7, _, _, _, _, _⟩) ?d1 24 (.tmp 1) ?d2 w.heap.size ?d3 24 (recA o (.slice ao o.moves.length cap)) (0, 0) _ HX.out Try.underlying24 rfl (rec_info _ _) ?d4; (case d1 => rfl); (case d2 => rfl); (case d3 => rfl)) | (go_at_call 13; refine CG.out.mono ?_; rintro e w1 ⟨rfl, hb1⟩))
    go_ret2
    exact ⟨rfl, HB.out.trans (hb1.mono HB.out.size)⟩
  · rw [encR_yes hg]
    rw [hg] at cg
    have hk : 1 ≤ o.kind ∧ o.kind ≤ 14 := by have := form_kind (good_form hg); omega
    have CG := Lib.hid cg
    have HG := Lib.hid hg
    have HS := Lib.hid hs
    have HK := Lib.hid hk
    have HR0 := Lib.hid (RB.new hv)
    clear hg hv hs cg hk
    go_enter Try.func11, Try.ntmps11
    go_wp2_with (first | (refine wpList_load_row (o := ⟨some 7, _, _, _, _, _⟩) ?e1 24 (.tmp 1) ?e2 w.heap.size ?e3 24 (recA o (.slice ao o.moves.length cap)) (0, 0) _ HX.out Try.underlying24 rfl (rec_info _ _) ?e4; (case e1 => rfl); (case e2 => rfl); (case e3 => rfl)) | (go_at_call 13; refine CG.out.mono ?_; rintro e w1 ⟨rfl, hb1⟩; have hx1 := below_heap hb1 HX.out) | (go_at_call 20; refine (fieldsOf_yes w.heap.size o.kind o.size o.data _ HK.out (cell_of hx1 2) (cell_of hx1 5) (cell_of hx1 8)).mono ?_; rintro e w2 ⟨l, v, rfl, ho, hd, hb2⟩; obtain ⟨g, cp, rfl, hgg, hL⟩ := OL.listLt (S := fun k => k < w2.heap.size) (L := fieldsD l o) ho (fieldsD_len l o).1 (fieldsD_ok l o HS.out.2.2.1) hd (fun k h => h); have HL := Lib.hid hL; have HR2 := Lib.hid ((HR0.out.below hb1).below hb2); have HB2 := Lib.hid (HB.out.trans ((hb1.trans (hb2.mono hb1.size)).mono HB.out.size)); have hx2 := below_heap hb2 hx1; have y2 : w2.cell? ⟨w.heap.size, 2, none⟩ = some (.int .i64 o.kind) := cell_of hx2 2; clear ho hd hL hb1 hb2 hx1 hgg) | (go_at_call 21; refine (new_any (fun k => k < w2.heap.size) w2 (fun k h => h)).mono ?_; rintro e w3 ⟨rfl, hp3, hb3⟩; have y3 : w3.cell? ⟨w.heap.size, 2, none⟩ = some (.int .i64 o.kind) := cellB hb3 (block_lt_of_cell y2) y2; have HP3 := Lib.hid hp3.start; have HB3 := Lib.hid hb3; clear hp3 hb3 y2) | (go_at_call 22; refine (nums_any (fun k => k < w2.heap.size) w3 w2.heap.size stE o.kind 1 HP3.out (by have := HK.out; omega)).mono ?_; rintro e w4 ⟨rfl, hp4, hk4⟩; have HI := Lib.hid (show PKs (fun k => k < w2.heap.size) w4 w2.heap.size (stE.num o.kind 1) ∧ Kept (fun k => k < w2.heap.size) w2 w4 from ⟨hp4, (Kept.ofBelow HB3.out _).trans hk4⟩); clear hp4 hk4) | (go_at_call 23; refine (put_loop (fun t w' => PKs (fun k => k < w2.heap.size) w' w2.heap.size t ∧ Kept (fun k => k < w2.heap.size) w2 w') w2.heap.size g cp (fieldsD l o) (Fd.val w.heap.size) (Fd.put o) (stE.num o.kind 1) w4 (by have := (fieldsD_len l o).2; omega) HI.out (fun t w' h i hi => (HL.out.keep h.2).cells i hi) (fun f hf => puts_any HR2.out HL.out (fun k h => h) HS.out hf (fit_any l o f hf (List.all_eq_true.1 (by have h := HG.out; rw [good_code l o HK.out, Bool.and_eq_true] at h; exact h.1) f hf)))).mono ?_; rintro e w5 ⟨rfl, h5⟩; rw [put_code l o HK.out] at h5; have HI5 := Lib.hid h5; clear h5) | (go_at_call 24; refine (done_any (fun k => k < w2.heap.size) w5 w2.heap.size _ _ HI5.out.1).mono ?_; rintro e w6 ⟨rfl, q, rfl⟩))
    go_ret2
    rw [enc_code HG.out]
    exact ⟨rfl, below_drewN (HB2.out.trans ((HI5.out.2.toBelow (Nat.le_refl _) (fun k h => h)).mono HB2.out.size)) _⟩
end Go.Proofs.Ythileemkiplodaa
namespace Go.Proofs.Ythileemkiplodaa
open Go.RowKit
set_option maxRecDepth 20000

/-- block b is the record o, its moves in a row that is neither in block b nor in block u -/
def RU (w : World) (b u : Nat) (o : Rec) : Prop := ∃ ao cap, w.heap[b]? = some (.cells (recA o (.slice ao o.moves.length cap)) 24 (0, 0)) ∧ VLI w ao cap o.moves ∧ ∀ a, ao = some a → o.moves = [] ∨ (b < a.block ∧ a.block ≠ u)
theorem row_kept2 {w w' : World} {b u : Nat} {ao : Option Addr} {cap : Nat} {L : List Mv} (h : VLI w ao cap L) (hk : Kept (fun k => k ≠ b ∧ k ≠ u) w w') (hs : ∀ a, ao = some a → L = [] ∨ (b < a.block ∧ a.block ≠ u)) : VLI w' ao cap L := by
  by_cases e : L = []
  · subst e; exact ⟨VL.nil _ _, h.2⟩
  · exact kept_row h hk (fun a ha => by have := (hs a ha).resolve_left e; exact ⟨by omega, this.2⟩)
theorem VL.ofBlock {w : World} {g : Nat} {L : List Mv} (h : w.heap[g]? = some (.cells (mvCells L).toArray 54 (0, 0))) : VL w (some ⟨g, 0, none⟩) L := by
  intro i hi
  obtain ⟨g0, g1, g2, g3⟩ := mvCells_get L i hi
  refine ⟨g, 0, rfl, ?_, ?_, ?_, ?_⟩ <;> rw [Nat.zero_add, cell_of h, List.getElem?_toArray]
  · exact g0
  · exact g1
  · exact g2
  · exact g3
def TI (w0 : World) (b u : Nat) (x : Rec × Option ByteArray) (w : World) : Prop := RU w b u x.1 ∧ UK w u x.2 ∧ (ukL x.2).size ≤ 1099511627776 ∧ Kept (fun k => k ≠ b ∧ k ≠ u) w0 w
theorem textO_size (o : Option ByteArray) (m : Int) : (ukL (textO o m)).size ≤ (ukL o).size := textO_le o m
theorem small_i64 {n : Int} (h : 0 ≤ n ∧ n ≤ 8) : -9223372036854775808 ≤ n ∧ n ≤ 9223372036854775807 := by omega
theorem takes_any {w0 : World} {b u g : Nat} {L : List Fd} (hL : LF (fun k => k ≠ b ∧ k ≠ u) w0 b g L) (hbu : b ≠ u) (hbl : b < w0.heap.size) (hul : u < w0.heap.size) {f : Fd} (hf : f ∈ L) :
    Does takeFns (TI w0 b u) u (f.val b) (fun x => f.take x) := by
  have hok := hL.ok f hf
  cases f with
  | num j n lo hi =>
    refine ⟨_, _, _, rfl, .inl ⟨rfl, rfl⟩, fun x w h => ?_⟩
    obtain ⟨⟨ao, cap, h1, h2, h3⟩, hu, hs, hk⟩ := h
    refine (ntake_any b j u x.2 n lo hi _ _ w h1 ⟨_, recA_int hok.1 x.1 _⟩ hu hs hbu (small_i64 hok.2)).mono ?_
    rintro e w' ⟨rfl, h4, h5, h6⟩
    rw [recA_setI hok.1, ← setI_moves x.1 (numV x.2 n) (j := j)] at h5
    exact ⟨rfl, ⟨ao, cap, h5, by show VLI w' ao cap (x.1.setI j (numV x.2 n)).moves; rw [setI_moves]; exact row_kept2 h2 h6 h3, by show ∀ a, ao = some a → (x.1.setI j (numV x.2 n)).moves = [] ∨ _; rw [setI_moves]; exact h3⟩, h4, Nat.le_trans (numO_size _ _) hs, hk.trans h6⟩
  | tick j n lo hi =>
    refine ⟨_, _, _, rfl, .inr (.inl ⟨rfl, rfl⟩), fun x w h => ?_⟩
    obtain ⟨⟨ao, cap, h1, h2, h3⟩, hu, hs, hk⟩ := h
    refine (ktake_any b j u x.2 n lo hi _ _ w h1 ⟨_, recA_int hok.1 x.1 _⟩ hu hs hbu (small_i64 hok.2)).mono ?_
    rintro e w' ⟨rfl, h4, h5, h6⟩
    rw [recA_setI hok.1, ← setI_moves x.1 (numV x.2 n) (j := j)] at h5
    exact ⟨rfl, ⟨ao, cap, h5, by show VLI w' ao cap (x.1.setI j (numV x.2 n)).moves; rw [setI_moves]; exact row_kept2 h2 h6 h3, by show ∀ a, ao = some a → (x.1.setI j (numV x.2 n)).moves = [] ∨ _; rw [setI_moves]; exact h3⟩, h4, Nat.le_trans (numO_size _ _) hs, hk.trans h6⟩
  | path j =>
    refine ⟨_, _, _, rfl, .inr (.inr (.inl ⟨rfl, rfl⟩)), fun x w h => ?_⟩
    obtain ⟨⟨ao, cap, h1, h2, h3⟩, hu, hs, hk⟩ := h
    refine (ttake_any b j u _ x.2 _ _ w h1 ⟨_, recA_txt hok x.1 _⟩ hu hs hbu).mono ?_
    rintro e w' ⟨rfl, h4, h5, h6⟩
    rw [recA_setT hok, ← setT_moves x.1 (textV x.2 4096) (j := j)] at h5
    exact ⟨rfl, ⟨ao, cap, h5, by show VLI w' ao cap (x.1.setT j (textV x.2 4096)).moves; rw [setT_moves]; exact row_kept2 h2 h6 h3, by show ∀ a, ao = some a → (x.1.setT j (textV x.2 4096)).moves = [] ∨ _; rw [setT_moves]; exact h3⟩, h4, Nat.le_trans (textO_size _ _) hs, hk.trans h6⟩
  | data j l y =>
    refine ⟨_, _, _, rfl, .inr (.inr (.inl ⟨rfl, rfl⟩)), fun x w h => ?_⟩
    obtain ⟨⟨ao, cap, h1, h2, h3⟩, hu, hs, hk⟩ := h
    refine (ttake_any b j u _ x.2 _ _ w h1 ⟨_, recA_txt hok x.1 _⟩ hu hs hbu).mono ?_
    rintro e w' ⟨rfl, h4, h5, h6⟩
    rw [recA_setT hok, ← setT_moves x.1 (textV x.2 4096) (j := j)] at h5
    exact ⟨rfl, ⟨ao, cap, h5, by show VLI w' ao cap (x.1.setT j (textV x.2 4096)).moves; rw [setT_moves]; exact row_kept2 h2 h6 h3, by show ∀ a, ao = some a → (x.1.setT j (textV x.2 4096)).moves = [] ∨ _; rw [setT_moves]; exact h3⟩, h4, Nat.le_trans (textO_size _ _) hs, hk.trans h6⟩
  | mvs j d =>
    obtain ⟨rfl, _⟩ := hok
    refine ⟨_, _, _, rfl, .inr (.inr (.inr ⟨rfl, rfl⟩)), fun x w h => ?_⟩
    obtain ⟨⟨ao, cap, h1, h2, h3⟩, hu, hs, hk⟩ := h
    refine (mtake_any b 11 u d x.2 _ _ w h1 ⟨_, _, _, rfl⟩ hu hs hbu).mono ?_
    rintro e w' ⟨g', hg', rfl, h4, h5, h6, h7⟩
    have hlen : (decMoves (numV x.2 1).toNat [] (numO x.2 1)).1.length = (numV x.2 1).toNat := by rw [decMoves_len]; simp
    have hg2 : b < g' ∧ g' ≠ u := by have := hk.size; omega
    refine ⟨rfl, ⟨some ⟨g', 0, none⟩, (numV x.2 1).toNat, ?_, ⟨VL.ofBlock h6, fun e => by cases e⟩, fun a e => by cases e; exact .inr hg2⟩, h4, Nat.le_trans (decMoves_size _ _ _) (Nat.le_trans (numO_size _ _) hs), hk.trans h7⟩
    rw [h5]
    show some (Obj.cells ((recA x.1 (.slice ao x.1.moves.length cap)).setIfInBounds 11 (.slice (some ⟨g', 0, none⟩) (numV x.2 1).toNat (numV x.2 1).toNat)) 24 (0, 0)) = some (Obj.cells (recA { x.1 with moves := (decMoves (numV x.2 1).toNat [] (numO x.2 1)).1 } (.slice (some ⟨g', 0, none⟩) (decMoves (numV x.2 1).toNat [] (numO x.2 1)).1.length (numV x.2 1).toNat)) 24 (0, 0))
    rw [hlen]
    rfl
theorem textV_le (u : Option ByteArray) : (textV u 4096).size ≤ 4096 := by
  unfold textV
  split
  · next h =>
    rw [ByteArray.size_extract]
    have := h.2.1
    have := numV_range u 2
    omega
  · exact Nat.zero_le _
theorem take_small : ∀ (L : List Fd) (x : Rec × Option ByteArray), smallR x.1 → smallR (L.foldl Fd.take x).1 := by
  intro L
  induction L with
  | nil => intro x h; exact h
  | cons f L ih =>
    intro x h
    rw [List.foldl_cons]
    apply ih
    have ht := textV_le x.2
    obtain ⟨h1, h2, h3, h4⟩ := h
    cases f with
    | num j n lo hi =>
      show smallR (x.1.setI j (numV x.2 n))
      unfold Rec.setI
      repeat' split
      all_goals exact ⟨h1, h2, h3, h4⟩
    | tick j n lo hi =>
      show smallR (x.1.setI j (numV x.2 n))
      unfold Rec.setI
      repeat' split
      all_goals exact ⟨h1, h2, h3, h4⟩
    | path j =>
      show smallR (x.1.setT j (textV x.2 4096))
      have ht2 : (textV x.2 4096).size ≤ 1000000 := by omega
      unfold Rec.setT
      repeat' split
      all_goals first | exact ⟨ht2, h2, h3, h4⟩ | exact ⟨h1, ht2, h3, h4⟩ | exact ⟨h1, h2, ht2, h4⟩
    | data j l y =>
      show smallR (x.1.setT j (textV x.2 4096))
      have ht2 : (textV x.2 4096).size ≤ 1000000 := by omega
      unfold Rec.setT
      repeat' split
      all_goals first | exact ⟨ht2, h2, h3, h4⟩ | exact ⟨h1, ht2, h3, h4⟩ | exact ⟨h1, h2, ht2, h4⟩
    | mvs j d =>
      refine ⟨h1, h2, h3, ?_⟩
      show (decMoves (numV x.2 1).toNat [] (numO x.2 1)).1.length ≤ 1000000
      rw [decMoves_len]
      have := one_num x.2
      simp
      omega
theorem dec_bad {s : ByteArray} (h : numV (some s) 1 < 1 ∨ 15 ≤ numV (some s) 1) : decR s = (rec0, 11) := by
  unfold decR
  apply endR_no
  right
  apply goodO_kind
  have e : (decBody (decHead s).1 (decHead s).2).1.kind = numV (some s) 1 := by
    have h0 : (decHead s).1.kind = numV (some s) 1 := rfl
    unfold decBody
    rw [h0, if_neg (by omega), if_neg (by omega), if_neg (by omega), if_neg (by omega), if_neg (by omega), if_neg (by omega), if_neg (by omega), if_neg (by omega)]
    exact h0
  rw [e]
  exact h
end Go.Proofs.Ythileemkiplodaa
namespace Go.Proofs.Ythileemkiplodaa
open Go.RowKit
set_option maxRecDepth 20000

set_option maxHeartbeats 3000000 in
theorem decode_bad (s : ByteArray) (w : World) (hs : s.size ≤ 1000000) (hk : numV (some s) 1 < 1 ∨ 15 ≤ numV (some s) 1) :
    Calls Try.prog 16 #[.string s] w (TellsE w (decR s)) := by
  rw [dec_bad hk]
  have HR := Lib.hid (heap_alloc_new w (.cells (recA rec0 (.slice none 0 0)) 24))
  have HBR := Lib.hid (show Below w.heap.size w (w.alloc (.cells (recA rec0 (.slice none 0 0)) 24)) from (Below.refl _ _).alloc (Nat.le_refl _) _)
  have HSR := Lib.hid (show (w.alloc (.cells (recA rec0 (.slice none 0 0)) 24)).heap.size = w.heap.size + 1 from sz_alloc _ _)
  have HSS := Lib.hid hs
  have CO := Lib.hid (show Calls Try.prog 31 #[.string s] (w.alloc (.cells (recA rec0 (.slice none 0 0)) 24)) fun e w' => e = .returned (.pointer (some ⟨w.heap.size + 1, 0, none⟩)) ∧ UK w' (w.heap.size + 1) (some s) ∧ Below (w.heap.size + 1) (w.alloc (.cells (recA rec0 (.slice none 0 0)) 24)) w' by have h := open_any s (w.alloc (.cells (recA rec0 (.slice none 0 0)) 24)); rw [HSR.out] at h; exact h)
  have HIR := Lib.hid (rec_info { rec0 with kind := numV (some s) 1 } (.slice none 0 0))
  have HIZ := Lib.hid (rec_info rec0 (.slice none 0 0))
  have HOR := Lib.hid (rec_one { rec0 with kind := numV (some s) 1 } none 0 0)
  have HOZ := Lib.hid (rec_one rec0 none 0 0)
  have HK := Lib.hid hk
  clear hk hs
  go_enter Try.func16, Try.ntmps16
  go_wp2_with (first | (go_at_call 31; refine CO.out.mono ?_; rintro e w1 ⟨rfl, hu1, hb1⟩; have HU1 := Lib.hid hu1; have HB1 := Lib.hid hb1; clear hu1 hb1) | (go_at_call 32; refine (uNum_any w1 (w.heap.size + 1) (some s) 1 HU1.out (by have := HSS.out; show s.size ≤ _; omega) (by decide)).mono ?_; rintro e w2 ⟨rfl, hu2, hk2⟩; have HU2 := Lib.hid hu2; have HK2 := Lib.hid hk2; have HL2 := Lib.hid (show w.heap.size + 1 < w2.heap.size from lt_of_block hu2.cells); have HB23 := Lib.hid (show Below w2.heap.size w2 (w2.alloc (.cells (recA { rec0 with kind := numV (some s) 1 } (.slice none 0 0)) 24)) from (Below.refl _ _).alloc (Nat.le_refl _) _); have HX3 := Lib.hid (show (w2.alloc (.cells (recA { rec0 with kind := numV (some s) 1 } (.slice none 0 0)) 24)).heap[w2.heap.size]? = some (.cells (recA { rec0 with kind := numV (some s) 1 } (.slice none 0 0)) 24 (0, 0)) from heap_alloc_new w2 _); have HU3 := Lib.hid (hu2.keep (Kept.ofBelow HB23.out (fun _ => True)) trivial); have HR3 := Lib.hid (show (w2.alloc (.cells (recA { rec0 with kind := numV (some s) 1 } (.slice none 0 0)) 24)).heap[w.heap.size]? = some (.cells (recA rec0 (.slice none 0 0)) 24 (0, 0)) from below_heap HB23.out (hk2.heap (b := w.heap.size) (by omega) (below_heap (by rw [HSR.out]; exact HB1.out) HR.out))); have HW3 := Lib.hid (show Below w.heap.size w (w2.alloc (.cells (recA { rec0 with kind := numV (some s) 1 } (.slice none 0 0)) 24)) from (HBR.out.trans (HB1.out.mono (by omega))).trans (((hk2.toBelow (B := w.heap.size + 1) (Nat.le_of_lt (lt_of_block HU1.out.cells)) (fun k h => by omega)).mono (by omega)).trans (HB23.out.mono (Nat.le_of_lt (Nat.lt_trans (Nat.lt_succ_self _) HL2.out))))); clear hu2 hk2) | (go_at_call 20; refine (fieldsOf_no w2.heap.size (numV (some s) 1) (w2.alloc (.cells (recA { rec0 with kind := numV (some s) 1 } (.slice none 0 0)) 24)) HK.out (cell_of HX3.out 2)).mono ?_; rintro e w4 ⟨rfl, hb4⟩; have HR4 := Lib.hid (below_heap hb4 HR3.out); have HW4 := Lib.hid (HW3.out.trans (hb4.mono HW3.out.size)); clear hb4) | (refine wpList_store_row (o := ⟨none, _, _, _, _, _⟩) ?b1 24 (.tmp 2) (.tmp 19) ?b2 w.heap.size (recA rec0 (.slice none 0 0)) ?b3 ?b4 24 (recA rec0 (.slice none 0 0)) HR4.out HIZ.out rfl HOZ.out ?b5; (case b1 => rfl); (case b2 => rfl); (case b3 => rfl); (case b4 => rfl)))
  exact dec_ret (x := (rec0, 11)) (ao := none) (cap := 0) rfl (setRow_heap _ _ _ _ _ _ HR4.out) rfl rfl rfl ⟨VL.nil _ _, fun _ => rfl⟩ (setRow_below HW4.out (Nat.le_refl _) _)
end Go.Proofs.Ythileemkiplodaa
