/- What the document's Encode returns. Conditions: the moves lie where the call was told; sizes of at most 1000000. Plain facts: what is packed of a record that has a form is unpacked as it was. No conditions. Plain facts: what is packed of a record that has a form is unpacked as it was, the other kinds; whole. No conditions. Plain facts: what is unpacked of a text as a record is packed as it stood; a record without one field that its kind has not. No conditions. Plain facts: a record with a form, one field turned. No conditions. -/
import Derived.Test.YthileemkiplodaaJOpF1
import Derived.Test.YthileemkiplodaaJOpF2
import Derived.Test.YthileemkiplodaaGv
import Derived.Test.YthileemkiplodaaGw
import Derived.Test.YthileemkiplodaaGu
set_option linter.unusedVariables false
namespace Go.Proofs.Ythileemkiplodaa
open Go.RowKit
set_option maxRecDepth 20000

theorem encR_yes {o : Rec} (h : goodO o = true) : encR o = ((encSt o).made, 0) := by simp [encR, h]
theorem encR_no {o : Rec} (h : goodO o = false) : encR o = (⟨#[]⟩, 11) := by simp [encR, h]
theorem form_kind {o : Rec} (h : formR o = true) : o.kind = 1 ∨ o.kind = 2 ∨ o.kind = 3 ∨ o.kind = 4 ∨ o.kind = 5 ∨ o.kind = 6 ∨ o.kind = 7 ∨ o.kind = 8 ∨ o.kind = 9 ∨ o.kind = 10 ∨ o.kind = 11 ∨ o.kind = 12 ∨ o.kind = 13 ∨ o.kind = 14 := by
  unfold formR at h
  repeat' split at h
  all_goals first | omega | cases h
theorem rencode_any (o : Rec) (ao : Option Addr) (cap : Nat) (w : World) (hv : VLI w ao cap o.moves) (hl : o.moves.length ≤ 1000000) (hz : o.path.size ≤ 1000000 ∧ o.dest.size ≤ 1000000 ∧ o.data.size ≤ 1000000) :
    Calls Try.prog 12 #[.agg (recA o (.slice ao o.moves.length cap))] w fun e w' => e = .returned (.tuple #[.string (encR o).1, .int .i64 (encR o).2]) ∧ Below w.heap.size w w' := by
  cases hg : goodO o
  · rw [encR_no hg]
    have HG := Lib.hid hg
    have HV := Lib.hid (hv.below ((Below.refl w.heap.size w).alloc (Nat.le_refl _) (.cells (recA o (.slice ao o.moves.length cap)) 24)))
    have HB0 := Lib.hid ((Below.refl w.heap.size w).alloc (Nat.le_refl _) (.cells (recA o (.slice ao o.moves.length cap)) 24))
    obtain ⟨y0, y1, y2, y3, y4, y5, y6, y7, y8, y9, y10, y11⟩ := rec_cells (heap_alloc_new w (.cells (recA o (.slice ao o.moves.length cap)) 24))
    clear hg hv
    go_enter Try.func12, Try.ntmps12
    go_wp2_with (go_at_call 14; refine (rgoodO_any o ao cap _ HV.out hl hz).mono ?_; rintro e w1 ⟨rfl, hb1⟩; rw [HG.out])
    go_ret2
    exact ⟨rfl, HB0.out.trans (hb1.mono HB0.out.size)⟩
  · rw [encR_yes hg]
    rcases form_kind (good_form hg) with k | k | k | k | k | k | k | k | k | k | k | k | k | k
    · exact renc_1 o ao cap w hv hl hz hg k
    · exact renc_2 o ao cap w hv hl hz hg k
    · exact renc_3 o ao cap w hv hl hz hg k
    · exact renc_4 o ao cap w hv hl hz hg k
    · exact renc_5 o ao cap w hv hl hz hg k
    · exact renc_6 o ao cap w hv hl hz hg k
    · exact renc_7 o ao cap w hv hl hz hg k
    · exact renc_8 o ao cap w hv hl hz hg k
    · exact renc_9 o ao cap w hv hl hz hg k
    · exact renc_10 o ao cap w hv hl hz hg k
    · exact renc_11 o ao cap w hv hl hz hg k
    · exact renc_12 o ao cap w hv hl hz hg k
    · exact renc_13 o ao cap w hv hl hz hg k
    · exact renc_14 o ao cap w hv hl hz hg k
end Go.Proofs.Ythileemkiplodaa
namespace Go.Proofs.Ythileemkiplodaa
open Go.RowKit
set_option maxRecDepth 20000

theorem st_num {s : ByteArray} {v n : Int} (h : numOk v n) : St.num ⟨s, false⟩ v n = ⟨s ++ putR v n, false⟩ := if_pos h
theorem st_text {s x : ByteArray} (h : x.size ≤ 65535) : St.text ⟨s, false⟩ x = ⟨s ++ (putR x.size 2 ++ x), false⟩ := if_pos h
theorem num_last {v n : Int} (h : numOk v n) (hv : v ≤ 9223372036854775807) : numV (some (putR v n)) n = v ∧ numO (some (putR v n)) n = some ⟨#[]⟩ := by
  have h := num_back v n ⟨#[]⟩ h hv
  rwa [append_empty] at h
theorem text_last {x : ByteArray} (h : x.size ≤ 65535) : textV (some (putR x.size 2 ++ x)) 65535 = x ∧ textO (some (putR x.size 2 ++ x)) 65535 = some ⟨#[]⟩ := by
  have h := text_back x ⟨#[]⟩ h
  rwa [append_empty] at h
theorem ok1 {v : Int} (h : 0 ≤ v) (h' : v < 256) : numOk v 1 := .inl ⟨rfl, h, h'⟩
theorem ok2 {v : Int} (h : 0 ≤ v) (h' : v < 65536) : numOk v 2 := .inr (.inl ⟨rfl, h, h'⟩)
theorem ok4 {v : Int} (h : 0 ≤ v) (h' : v < 4294967296) : numOk v 4 := .inr (.inr (.inl ⟨rfl, h, h'⟩))
theorem ok8 {v : Int} (h : 0 ≤ v) : numOk v 8 := .inr (.inr (.inr ⟨rfl, h⟩))
theorem good_size {p : ByteArray} (h : goodR p = true) : p.size ≤ 72 := by
  obtain ⟨h1, h2⟩ := good_fit p h
  have h3 := (fit_iff _).1 h1
  have h4 := joinL_size_le _ h3.2
  have h5 : (slashB).size = 1 := rfl
  rw [← h2]
  unfold pathL
  split <;> omega
theorem put_size {v n : Int} (h : numOk v n) : (putR v n).size ≤ 8 := putR_small v n (numOk_n h)

/-- a text, its length before it -/
def txB (x : ByteArray) : ByteArray := putR x.size 2 ++ x
theorem txB_size {x : ByteArray} (h : x.size ≤ 65535) : (txB x).size ≤ x.size + 8 := by
  have := put_size (ok2 (v := (x.size : Int)) (by omega) (by omega))
  unfold txB
  rw [ByteArray.size_append]
  omega
def mvB (m : Mv) : ByteArray := putR m.addr 2 ++ (putR m.src 2 ++ (putR m.len 2 ++ putR m.dst 2))
def mvsB : List Mv → ByteArray
  | [] => ⟨#[]⟩
  | m :: l => mvB m ++ mvsB l
def headB (o : Rec) : ByteArray := putR o.kind 1 ++ (putR o.client 1 ++ putR o.seq 4)
/-- what stands behind a record's head -/
def bodyB (o : Rec) : ByteArray :=
  if o.kind = 1 ∨ o.kind = 2 ∨ o.kind = 3 ∨ o.kind = 5 ∨ o.kind = 8 then txB o.path
  else if o.kind = 4 ∨ o.kind = 6 then txB o.path ++ txB o.dest
  else if o.kind = 7 then txB o.path ++ putR o.size 4
  else if o.kind = 9 then putR o.handle 4
  else if o.kind = 10 then putR o.handle 4 ++ (putR o.off 4 ++ txB o.data)
  else if o.kind = 11 ∨ o.kind = 12 then putR o.tick 8
  else if o.kind = 13 then putR o.ino 4 ++ (putR o.moves.length 1 ++ (mvsB o.moves ++ txB o.data))
  else if o.kind = 14 then txB o.data ++ (putR o.size 4 ++ putR o.off 4)
  else ⟨#[]⟩
def hdR (o : Rec) : Rec := { rec0 with client := o.client, seq := o.seq, kind := o.kind }
theorem hdR_kind (o : Rec) : (hdR o).kind = o.kind := rfl

theorem mvGood_iff {n : Nat} {m : Mv} (h : mvGood n m = true) : numOk m.addr 2 ∧ numOk m.src 2 ∧ numOk m.len 2 ∧ numOk m.dst 2 := by
  simp only [mvGood, Bool.and_eq_true, inR_iff] at h
  exact ⟨ok2 h.1.1 (by omega), ok2 h.2.1.1 (by omega), ok2 (by omega) (by omega), ok2 h.2.2.2.1.1 (by omega)⟩
theorem encMove_fine {s : ByteArray} {m : Mv} (h : numOk m.addr 2 ∧ numOk m.src 2 ∧ numOk m.len 2 ∧ numOk m.dst 2) : encMove ⟨s, false⟩ m = ⟨s ++ mvB m, false⟩ := by
  unfold encMove mvB
  rw [st_num h.1, st_num h.2.1, st_num h.2.2.1, st_num h.2.2.2]
  simp only [ByteArray.append_assoc]
theorem moves_fine {n : Nat} (L : List Mv) (h : L.all (mvGood n) = true) (s : ByteArray) : L.foldl encMove ⟨s, false⟩ = ⟨s ++ mvsB L, false⟩ := by
  induction L generalizing s with
  | nil => show (⟨s, false⟩ : St) = ⟨s ++ ⟨#[]⟩, false⟩; rw [append_empty]
  | cons m L ih =>
    rw [List.all_cons, Bool.and_eq_true] at h
    rw [List.foldl_cons, encMove_fine (mvGood_iff h.1), ih h.2]
    show (⟨s ++ mvB m ++ mvsB L, false⟩ : St) = ⟨s ++ (mvB m ++ mvsB L), false⟩
    rw [ByteArray.append_assoc]
theorem mvsB_size {n : Nat} (L : List Mv) (h : L.all (mvGood n) = true) : (mvsB L).size ≤ 32 * L.length := by
  induction L with
  | nil => exact Nat.le_refl _
  | cons m L ih =>
    rw [List.all_cons, Bool.and_eq_true] at h
    have := ih h.2
    obtain ⟨h1, h2, h3, h4⟩ := mvGood_iff h.1
    have e1 := put_size h1
    have e2 := put_size h2
    have e3 := put_size h3
    have e4 := put_size h4
    show (mvB m ++ mvsB L).size ≤ 32 * (L.length + 1)
    unfold mvB
    simp only [ByteArray.size_append]
    omega
theorem moves_back {n : Nat} (L : List Mv) (h : L.all (mvGood n) = true) (l : List Mv) (R : ByteArray) : decMoves L.length l (some (mvsB L ++ R)) = (l ++ L, some R) := by
  induction L generalizing l with
  | nil =>
    show (l, some (⟨#[]⟩ ++ R)) = (l ++ [], some R)
    rw [empty_append, List.append_nil]
  | cons m L ih =>
    rw [List.all_cons, Bool.and_eq_true] at h
    obtain ⟨h1, h2, h3, h4⟩ := mvGood_iff h.1
    have top : ∀ v, numOk v 2 → v ≤ 9223372036854775807 := by intro v hv; unfold numOk at hv; omega
    have e : mvsB (m :: L) ++ R = putR m.addr 2 ++ (putR m.src 2 ++ (putR m.len 2 ++ (putR m.dst 2 ++ (mvsB L ++ R)))) := by
      show (mvB m ++ mvsB L) ++ R = _
      unfold mvB
      simp only [ByteArray.append_assoc]
    obtain ⟨a1, a2⟩ := num_back m.addr 2 (putR m.src 2 ++ (putR m.len 2 ++ (putR m.dst 2 ++ (mvsB L ++ R)))) h1 (top _ h1)
    obtain ⟨b1, b2⟩ := num_back m.src 2 (putR m.len 2 ++ (putR m.dst 2 ++ (mvsB L ++ R))) h2 (top _ h2)
    obtain ⟨c1, c2⟩ := num_back m.len 2 (putR m.dst 2 ++ (mvsB L ++ R)) h3 (top _ h3)
    obtain ⟨d1, d2⟩ := num_back m.dst 2 (mvsB L ++ R) h4 (top _ h4)
    rw [List.length_cons, e]
    unfold decMoves
    rw [a1, a2, b1, b2, c1, c2, d1, d2, ih h.2, List.append_assoc]
    rfl

/-- all that is wanted of a record with a form -/
def Fine (o : Rec) : Prop := encSt o = ⟨headB o ++ bodyB o, false⟩ ∧ (bodyB o).size ≤ 2400 ∧ decBody (hdR o) (some (bodyB o)) = (o, some ⟨#[]⟩)
theorem good_parts {o : Rec} (h : goodO o = true) : numOk o.client 1 ∧ numOk o.seq 4 ∧ numOk o.kind 1 ∧ o = onlyR o ∧ formR o = true := by
  have hf := good_form h
  have hk := form_kind hf
  simp only [goodO, Bool.and_eq_true, inR_iff, Rec.same_iff] at h
  exact ⟨ok1 (by omega) (by omega), ok4 (by omega) (by omega), ok1 (by omega) (by omega), h.2.2.1, hf⟩
theorem head_fine {o : Rec} (h : goodO o = true) : encHead o = ⟨headB o, false⟩ := by
  obtain ⟨h1, h2, h3, _⟩ := good_parts h
  unfold encHead headB stE
  rw [st_num h3, st_num h1, st_num h2, empty_append]
  simp only [ByteArray.append_assoc]
theorem fine_path {o : Rec} (h : goodO o = true) (k : o.kind = 1 ∨ o.kind = 2 ∨ o.kind = 3 ∨ o.kind = 5 ∨ o.kind = 8) : Fine o := by
  obtain ⟨_, _, _, ho, hf⟩ := good_parts h
  unfold formR at hf
  rw [if_pos k] at hf
  have hs := good_size hf
  unfold onlyR at ho
  rw [if_pos k] at ho
  unfold Fine encSt bodyB decBody
  rw [hdR_kind]
  simp only [if_pos k]
  refine ⟨?_, ?_, ?_⟩
  · rw [head_fine h, st_text (by omega)]; rfl
  · have := txB_size (x := o.path) (by omega); omega
  · obtain ⟨a1, a2⟩ := text_last (x := o.path) (by omega)
    unfold txB
    rw [a1, a2]
    exact congrArg (·, some _) ho.symm
theorem fine_two {o : Rec} (h : goodO o = true) (k : o.kind = 4 ∨ o.kind = 6) : Fine o := by
  obtain ⟨_, _, _, ho, hf⟩ := good_parts h
  have k0 : ¬(o.kind = 1 ∨ o.kind = 2 ∨ o.kind = 3 ∨ o.kind = 5 ∨ o.kind = 8) := by omega
  unfold formR at hf
  rw [if_neg k0, if_pos k, Bool.and_eq_true] at hf
  have hs := good_size hf.1
  have hs2 := good_size hf.2
  unfold onlyR at ho
  rw [if_neg k0, if_pos k] at ho
  unfold Fine encSt bodyB decBody
  rw [hdR_kind]
  simp only [if_neg k0, if_pos k]
  refine ⟨?_, ?_, ?_⟩
  · rw [head_fine h, st_text (by omega), st_text (by omega), ByteArray.append_assoc]; rfl
  · have := txB_size (x := o.path) (by omega); have := txB_size (x := o.dest) (by omega); rw [ByteArray.size_append]; omega
  · obtain ⟨a1, a2⟩ := text_back o.path (txB o.dest) (by omega)
    obtain ⟨b1, b2⟩ := text_last (x := o.dest) (by omega)
    rw [show txB o.path ++ txB o.dest = (putR o.path.size 2 ++ o.path) ++ txB o.dest from rfl, a1, a2]
    unfold txB
    rw [b1, b2]
    exact congrArg (·, some _) ho.symm
end Go.Proofs.Ythileemkiplodaa
namespace Go.Proofs.Ythileemkiplodaa
open Go.RowKit
set_option maxRecDepth 20000
theorem fine_7 {o : Rec} (h : goodO o = true) (k : o.kind = 7) : Fine o := by
  obtain ⟨_, _, _, ho, hf⟩ := good_parts h
  have n0 : ¬(o.kind = 1 ∨ o.kind = 2 ∨ o.kind = 3 ∨ o.kind = 5 ∨ o.kind = 8) := by omega
  have n1 : ¬(o.kind = 4 ∨ o.kind = 6) := by omega
  unfold formR at hf
  rw [if_neg n0, if_neg n1, if_pos k] at hf
  rw [Bool.and_eq_true, inR_iff] at hf
  have hs := good_size hf.1
  have hn := ok4 (v := o.size) (by omega) (by omega)
  unfold onlyR at ho
  rw [if_neg n0, if_neg n1, if_pos k] at ho
  unfold Fine encSt bodyB decBody
  rw [hdR_kind]
  simp only [if_neg n0, if_neg n1, if_pos k]
  refine ⟨?_, ?_, ?_⟩
  · rw [head_fine h, st_text (by omega), st_num hn, ByteArray.append_assoc]; rfl
  · have := txB_size (x := o.path) (by omega); have := put_size hn; rw [ByteArray.size_append]; omega
  · obtain ⟨a1, a2⟩ := text_back o.path (putR o.size 4) (by omega)
    obtain ⟨b1, b2⟩ := num_last hn (by omega)
    unfold txB
    rw [a1, a2, b1, b2]
    exact congrArg (·, some _) ho.symm
theorem fine_9 {o : Rec} (h : goodO o = true) (k : o.kind = 9) : Fine o := by
  obtain ⟨_, _, _, ho, hf⟩ := good_parts h
  have n0 : ¬(o.kind = 1 ∨ o.kind = 2 ∨ o.kind = 3 ∨ o.kind = 5 ∨ o.kind = 8) := by omega
  have n1 : ¬(o.kind = 4 ∨ o.kind = 6) := by omega
  have n2 : ¬(o.kind = 7) := by omega
  unfold formR at hf
  rw [if_neg n0, if_neg n1, if_neg n2, if_pos k] at hf
  rw [inR_iff] at hf
  have hn := ok4 (v := o.handle) (by omega) (by omega)
  unfold onlyR at ho
  rw [if_neg n0, if_neg n1, if_neg n2, if_pos k] at ho
  unfold Fine encSt bodyB decBody
  rw [hdR_kind]
  simp only [if_neg n0, if_neg n1, if_neg n2, if_pos k]
  refine ⟨?_, ?_, ?_⟩
  · rw [head_fine h, st_num hn]
  · have := put_size hn; omega
  · obtain ⟨b1, b2⟩ := num_last hn (by omega)
    rw [b1, b2]
    exact congrArg (·, some _) ho.symm
theorem fine_10 {o : Rec} (h : goodO o = true) (k : o.kind = 10) : Fine o := by
  obtain ⟨_, _, _, ho, hf⟩ := good_parts h
  have n0 : ¬(o.kind = 1 ∨ o.kind = 2 ∨ o.kind = 3 ∨ o.kind = 5 ∨ o.kind = 8) := by omega
  have n1 : ¬(o.kind = 4 ∨ o.kind = 6) := by omega
  have n2 : ¬(o.kind = 7) := by omega
  have n3 : ¬(o.kind = 9) := by omega
  unfold formR at hf
  rw [if_neg n0, if_neg n1, if_neg n2, if_neg n3, if_pos k] at hf
  rw [Bool.and_eq_true, Bool.and_eq_true, inR_iff, inR_iff, inR_iff] at hf
  have hn := ok4 (v := o.handle) (by omega) (by omega)
  have hm := ok4 (v := o.off) (by omega) (by omega)
  have hd : o.data.size ≤ 65535 := by omega
  unfold onlyR at ho
  rw [if_neg n0, if_neg n1, if_neg n2, if_neg n3, if_pos k] at ho
  unfold Fine encSt bodyB decBody
  rw [hdR_kind]
  simp only [if_neg n0, if_neg n1, if_neg n2, if_neg n3, if_pos k]
  refine ⟨?_, ?_, ?_⟩
  · rw [head_fine h, st_num hn, st_num hm, st_text hd]
    simp only [ByteArray.append_assoc]
    rfl
  · have := put_size hn; have := put_size hm; have := txB_size hd; rw [ByteArray.size_append, ByteArray.size_append]; omega
  · obtain ⟨a1, a2⟩ := num_back o.handle 4 (putR o.off 4 ++ txB o.data) hn (by omega)
    obtain ⟨b1, b2⟩ := num_back o.off 4 (txB o.data) hm (by omega)
    obtain ⟨c1, c2⟩ := text_last hd
    rw [a1, a2, b1, b2]
    unfold txB
    rw [c1, c2]
    exact congrArg (·, some _) ho.symm
theorem fine_tick {o : Rec} (h : goodO o = true) (k : o.kind = 11 ∨ o.kind = 12) : Fine o := by
  obtain ⟨_, _, _, ho, hf⟩ := good_parts h
  have n0 : ¬(o.kind = 1 ∨ o.kind = 2 ∨ o.kind = 3 ∨ o.kind = 5 ∨ o.kind = 8) := by omega
  have n1 : ¬(o.kind = 4 ∨ o.kind = 6) := by omega
  have n2 : ¬(o.kind = 7) := by omega
  have n3 : ¬(o.kind = 9) := by omega
  have n4 : ¬(o.kind = 10) := by omega
  unfold formR at hf
  rw [if_neg n0, if_neg n1, if_neg n2, if_neg n3, if_neg n4, if_pos k] at hf
  rw [inR_iff] at hf
  have hn := ok8 (v := o.tick) (by omega)
  unfold onlyR at ho
  rw [if_neg n0, if_neg n1, if_neg n2, if_neg n3, if_neg n4, if_pos k] at ho
  unfold Fine encSt bodyB decBody
  rw [hdR_kind]
  simp only [if_neg n0, if_neg n1, if_neg n2, if_neg n3, if_neg n4, if_pos k]
  refine ⟨?_, ?_, ?_⟩
  · rw [head_fine h, st_num hn]
  · have := put_size hn; omega
  · obtain ⟨b1, b2⟩ := num_last hn (by omega)
    rw [b1, b2]
    exact congrArg (·, some _) ho.symm
theorem fine_13 {o : Rec} (h : goodO o = true) (k : o.kind = 13) : Fine o := by
  obtain ⟨_, _, _, ho, hf⟩ := good_parts h
  have n0 : ¬(o.kind = 1 ∨ o.kind = 2 ∨ o.kind = 3 ∨ o.kind = 5 ∨ o.kind = 8) := by omega
  have n1 : ¬(o.kind = 4 ∨ o.kind = 6) := by omega
  have n2 : ¬(o.kind = 7) := by omega
  have n3 : ¬(o.kind = 9) := by omega
  have n4 : ¬(o.kind = 10) := by omega
  have n5 : ¬(o.kind = 11 ∨ o.kind = 12) := by omega
  unfold formR at hf
  rw [if_neg n0, if_neg n1, if_neg n2, if_neg n3, if_neg n4, if_neg n5, if_pos k] at hf
  rw [Bool.and_eq_true, Bool.and_eq_true, Bool.and_eq_true, inR_iff, inR_iff, decide_eq_true_eq] at hf
  obtain ⟨hi, hl, hz, ha⟩ := hf
  have hn := ok4 (v := o.ino) (by omega) (by omega)
  have hm := ok1 (v := (o.moves.length : Int)) (by omega) (by omega)
  have hd : o.data.size ≤ 65535 := by omega
  unfold onlyR at ho
  rw [if_neg n0, if_neg n1, if_neg n2, if_neg n3, if_neg n4, if_neg n5, if_pos k] at ho
  unfold Fine encSt bodyB decBody
  rw [hdR_kind]
  simp only [if_neg n0, if_neg n1, if_neg n2, if_neg n3, if_neg n4, if_neg n5, if_pos k]
  refine ⟨?_, ?_, ?_⟩
  · rw [head_fine h, st_num hn, st_num hm, moves_fine _ ha, st_text hd]
    simp only [ByteArray.append_assoc]
    rfl
  · have := put_size hn; have := put_size hm; have := txB_size hd; have := mvsB_size _ ha; rw [ByteArray.size_append, ByteArray.size_append, ByteArray.size_append]; omega
  · obtain ⟨a1, a2⟩ := num_back o.ino 4 (putR o.moves.length 1 ++ (mvsB o.moves ++ txB o.data)) hn (by omega)
    obtain ⟨b1, b2⟩ := num_back o.moves.length 1 (mvsB o.moves ++ txB o.data) hm (by omega)
    obtain ⟨c1, c2⟩ := text_last hd
    rw [a1, a2, b1, b2, Int.toNat_natCast, moves_back _ ha, List.nil_append]
    simp only []
    unfold txB
    rw [c1, c2]
    exact congrArg (·, some _) ho.symm
theorem fine_14 {o : Rec} (h : goodO o = true) (k : o.kind = 14) : Fine o := by
  obtain ⟨_, _, _, ho, hf⟩ := good_parts h
  have n0 : ¬(o.kind = 1 ∨ o.kind = 2 ∨ o.kind = 3 ∨ o.kind = 5 ∨ o.kind = 8) := by omega
  have n1 : ¬(o.kind = 4 ∨ o.kind = 6) := by omega
  have n2 : ¬(o.kind = 7) := by omega
  have n3 : ¬(o.kind = 9) := by omega
  have n4 : ¬(o.kind = 10) := by omega
  have n5 : ¬(o.kind = 11 ∨ o.kind = 12) := by omega
  have n6 : ¬(o.kind = 13) := by omega
  unfold formR at hf
  rw [if_neg n0, if_neg n1, if_neg n2, if_neg n3, if_neg n4, if_neg n5, if_neg n6, if_pos k] at hf
  rw [Bool.and_eq_true, Bool.and_eq_true, Bool.and_eq_true, inR_iff, inR_iff, inR_iff] at hf
  obtain ⟨hz, hi, hl, _⟩ := hf
  have hn := ok4 (v := o.size) (by omega) (by omega)
  have hm := ok4 (v := o.off) (by omega) (by omega)
  have hd : o.data.size ≤ 65535 := by omega
  unfold onlyR at ho
  rw [if_neg n0, if_neg n1, if_neg n2, if_neg n3, if_neg n4, if_neg n5, if_neg n6, if_pos k] at ho
  unfold Fine encSt bodyB decBody
  rw [hdR_kind]
  simp only [if_neg n0, if_neg n1, if_neg n2, if_neg n3, if_neg n4, if_neg n5, if_neg n6, if_pos k]
  refine ⟨?_, ?_, ?_⟩
  · rw [head_fine h, st_text hd, st_num hn, st_num hm]
    simp only [ByteArray.append_assoc]
    rfl
  · have := put_size hn; have := put_size hm; have := txB_size hd; rw [ByteArray.size_append, ByteArray.size_append]; omega
  · obtain ⟨a1, a2⟩ := text_back o.data (putR o.size 4 ++ putR o.off 4) hd
    obtain ⟨b1, b2⟩ := num_back o.size 4 (putR o.off 4) hn (by omega)
    obtain ⟨c1, c2⟩ := num_last hm (by omega)
    unfold txB
    rw [a1, a2, b1, b2, c1, c2]
    exact congrArg (·, some _) ho.symm
theorem fine_any {o : Rec} (h : goodO o = true) : Fine o := by
  rcases form_kind (good_form h) with k | k | k | k | k | k | k | k | k | k | k | k | k | k
  · exact fine_path h (by omega)
  · exact fine_path h (by omega)
  · exact fine_path h (by omega)
  · exact fine_two h (by omega)
  · exact fine_path h (by omega)
  · exact fine_two h (by omega)
  · exact fine_7 h k
  · exact fine_path h (by omega)
  · exact fine_9 h k
  · exact fine_10 h k
  · exact fine_tick h (by omega)
  · exact fine_tick h (by omega)
  · exact fine_13 h k
  · exact fine_14 h k
theorem headB_size {o : Rec} (h : goodO o = true) : (headB o).size ≤ 24 := by
  obtain ⟨h1, h2, h3, _⟩ := good_parts h
  have := put_size h1
  have := put_size h2
  have := put_size h3
  unfold headB
  rw [ByteArray.size_append, ByteArray.size_append]
  omega
/-- the text of a record with a form -/
theorem enc_text {o : Rec} (h : goodO o = true) : encR o = (headB o ++ bodyB o, 0) ∧ (headB o ++ bodyB o).size ≤ 4096 := by
  have hs := headB_size h
  obtain ⟨h1, h2, _⟩ := fine_any h
  have hz : (headB o ++ bodyB o).size ≤ 4096 := by rw [ByteArray.size_append]; omega
  refine ⟨?_, hz⟩
  rw [encR_yes h, h1]
  unfold St.made
  rw [if_neg]
  rintro (h | h)
  · cases h
  · exact absurd h (by show ¬(65536 < (headB o ++ bodyB o).size); omega)
theorem dec_head {o : Rec} (h : goodO o = true) (R : ByteArray) : decHead (headB o ++ R) = (hdR o, some R) := by
  obtain ⟨h1, h2, h3, _⟩ := good_parts h
  have top : ∀ v n, numOk v n → n ≠ 8 → v ≤ 9223372036854775807 := by intro v n hv hn; unfold numOk at hv; omega
  obtain ⟨a1, a2⟩ := num_back o.kind 1 (putR o.client 1 ++ (putR o.seq 4 ++ R)) h3 (top _ _ h3 (by decide))
  obtain ⟨b1, b2⟩ := num_back o.client 1 (putR o.seq 4 ++ R) h1 (top _ _ h1 (by decide))
  obtain ⟨c1, c2⟩ := num_back o.seq 4 R h2 (top _ _ h2 (by decide))
  have e : headB o ++ R = putR o.kind 1 ++ (putR o.client 1 ++ (putR o.seq 4 ++ R)) := by
    unfold headB
    simp only [ByteArray.append_assoc]
  rw [e]
  unfold decHead
  rw [a1, a2, b1, b2, c1, c2]
  rfl
/-- what was encoded is decoded as it was -/
theorem dec_enc {o : Rec} (h : goodO o = true) : decR (encR o).1 = (o, 0) := by
  rw [(enc_text h).1]
  show decR (headB o ++ bodyB o) = (o, 0)
  unfold decR
  rw [dec_head h, (fine_any h).2.2]
  exact endR_yes rfl h
end Go.Proofs.Ythileemkiplodaa
namespace Go.Proofs.Ythileemkiplodaa
open Go.RowKit
set_option maxRecDepth 20000

theorem head_forth {s R : ByteArray} (h : (decHead s).2 = some R) : s = headB (decHead s).1 ++ R := by
  obtain ⟨c1, _⟩ := num_forth (u := numO (numO (some s) 1) 1) (n := 4) h
  obtain ⟨b1, _⟩ := num_forth (u := numO (some s) 1) (n := 1) c1
  obtain ⟨a1, _⟩ := num_forth (u := some s) (n := 1) b1
  have a2 := Option.some.inj a1
  show s = (putR (numV (some s) 1) 1 ++ (putR (numV (numO (some s) 1) 1) 1 ++ putR (numV (numO (numO (some s) 1) 1) 4) 4)) ++ R
  refine a2.trans ?_
  simp only [ByteArray.append_assoc]
theorem moves_forth (n : Nat) : ∀ (l l' : List Mv) (u : Option ByteArray) (R : ByteArray), decMoves n l u = (l', some R) → ∃ L, l' = l ++ L ∧ L.length = n ∧ u = some (mvsB L ++ R) := by
  induction n with
  | zero =>
    intro l l' u R h
    obtain ⟨h1, h2⟩ := Prod.mk.inj h
    refine ⟨[], by rw [List.append_nil]; exact h1.symm, rfl, ?_⟩
    rw [h2]
    show some R = some (⟨#[]⟩ ++ R)
    rw [empty_append]
  | succ n ih =>
    intro l l' u R h
    obtain ⟨L, h1, h2, h3⟩ := ih _ _ _ _ h
    obtain ⟨d1, _⟩ := num_forth h3
    obtain ⟨c1, _⟩ := num_forth d1
    obtain ⟨b1, _⟩ := num_forth c1
    obtain ⟨a1, _⟩ := num_forth b1
    refine ⟨⟨numV u 2, numV (numO u 2) 2, numV (numO (numO u 2) 2) 2, numV (numO (numO (numO u 2) 2) 2) 2⟩ :: L, ?_, by rw [List.length_cons, h2], ?_⟩
    · rw [h1, List.append_assoc]; rfl
    · refine a1.trans ?_
      show _ = some ((mvB ⟨numV u 2, numV (numO u 2) 2, numV (numO (numO u 2) 2) 2, numV (numO (numO (numO u 2) 2) 2) 2⟩ ++ mvsB L) ++ R)
      unfold mvB
      simp only [ByteArray.append_assoc]
/-- what stood behind the head -/
theorem body_forth {o0 o : Rec} {u : Option ByteArray} (h : decBody o0 u = (o, some ⟨#[]⟩)) (hg : goodO o = true) : u = some (bodyB o) ∧ headB o = headB o0 := by
  unfold decBody at h
  split at h
  · next k =>
    obtain ⟨rfl, h2⟩ := Prod.mk.inj h
    refine ⟨?_, rfl⟩
    obtain ⟨a1, _⟩ := text_forth h2
    refine a1.trans ?_
    unfold bodyB
    dsimp only
    rw [if_pos k, append_empty]
    rfl
  split at h
  · next k0 k =>
    obtain ⟨rfl, h2⟩ := Prod.mk.inj h
    refine ⟨?_, rfl⟩
    obtain ⟨b1, _⟩ := text_forth h2
    obtain ⟨a1, _⟩ := text_forth b1
    refine a1.trans ?_
    unfold bodyB
    dsimp only
    rw [if_neg k0, if_pos k, append_empty]
    rfl
  split at h
  · next k0 k1 k =>
    obtain ⟨rfl, h2⟩ := Prod.mk.inj h
    refine ⟨?_, rfl⟩
    obtain ⟨b1, _⟩ := num_forth h2
    obtain ⟨a1, _⟩ := text_forth b1
    refine a1.trans ?_
    unfold bodyB
    dsimp only
    rw [if_neg k0, if_neg k1, if_pos k, append_empty]
    rfl
  split at h
  · next k0 k1 k2 k =>
    obtain ⟨rfl, h2⟩ := Prod.mk.inj h
    refine ⟨?_, rfl⟩
    obtain ⟨a1, _⟩ := num_forth h2
    refine a1.trans ?_
    unfold bodyB
    dsimp only
    rw [if_neg k0, if_neg k1, if_neg k2, if_pos k, append_empty]
  split at h
  · next k0 k1 k2 k3 k =>
    obtain ⟨rfl, h2⟩ := Prod.mk.inj h
    refine ⟨?_, rfl⟩
    obtain ⟨c1, _⟩ := text_forth h2
    obtain ⟨b1, _⟩ := num_forth c1
    obtain ⟨a1, _⟩ := num_forth b1
    refine a1.trans ?_
    unfold bodyB
    dsimp only
    rw [if_neg k0, if_neg k1, if_neg k2, if_neg k3, if_pos k, append_empty]
    rfl
  split at h
  · next k0 k1 k2 k3 k4 k =>
    obtain ⟨rfl, h2⟩ := Prod.mk.inj h
    refine ⟨?_, rfl⟩
    obtain ⟨a1, _⟩ := num_forth h2
    refine a1.trans ?_
    unfold bodyB
    dsimp only
    rw [if_neg k0, if_neg k1, if_neg k2, if_neg k3, if_neg k4, if_pos k, append_empty]
  split at h
  · next k0 k1 k2 k3 k4 k5 k =>
    obtain ⟨rfl, h2⟩ := Prod.mk.inj h
    refine ⟨?_, rfl⟩
    obtain ⟨d1, _⟩ := text_forth h2
    obtain ⟨L, c1, c2, c3⟩ := moves_forth _ _ _ _ _ (Prod.ext rfl d1)
    obtain ⟨b1, b2, _⟩ := num_forth c3
    obtain ⟨a1, _⟩ := num_forth b1
    have b0 := numOk_nonneg b2
    rw [List.nil_append] at c1
    replace c1 : (decMoves (numV (numO u 4) 1).toNat [] (numO (numO u 4) 1)).1 = L := c1
    have cl : ((decMoves (numV (numO u 4) 1).toNat [] (numO (numO u 4) 1)).1.length : Int) = numV (numO u 4) 1 := by rw [c1, c2]; omega
    refine a1.trans ?_
    unfold bodyB
    dsimp only
    rw [if_neg k0, if_neg k1, if_neg k2, if_neg k3, if_neg k4, if_neg k5, if_pos k, append_empty, cl, c1]
    rfl
  split at h
  · next k0 k1 k2 k3 k4 k5 k6 k =>
    obtain ⟨rfl, h2⟩ := Prod.mk.inj h
    refine ⟨?_, rfl⟩
    obtain ⟨c1, _⟩ := num_forth h2
    obtain ⟨b1, _⟩ := num_forth c1
    obtain ⟨a1, _⟩ := text_forth b1
    refine a1.trans ?_
    unfold bodyB
    dsimp only
    rw [if_neg k0, if_neg k1, if_neg k2, if_neg k3, if_neg k4, if_neg k5, if_neg k6, if_pos k, append_empty]
    rfl
  · exfalso
    obtain ⟨rfl, h2⟩ := Prod.mk.inj h
    have := form_kind (good_form hg)
    omega
/-- what was decoded is encoded as it stood -/
theorem enc_dec {s : ByteArray} (h : (decR s).2 = 0) : goodO (decR s).1 = true ∧ encR (decR s).1 = (s, 0) := by
  unfold decR at *
  generalize hx : decBody (decHead s).1 (decHead s).2 = x at *
  have hh : ukE x.2 = 0 ∧ goodO x.1 = true := by
    by_cases h1 : ukE x.2 = 0
    · cases h2 : goodO x.1
      · rw [endR_no (.inr h2)] at h; cases h
      · exact ⟨h1, rfl⟩
    · rw [endR_no (.inl h1)] at h; cases h
  obtain ⟨h1, h2⟩ := hh
  rw [endR_yes h1 h2]
  refine ⟨h2, ?_⟩
  obtain ⟨b1, b2⟩ := body_forth (o := x.1) (hx.trans (Prod.ext rfl (end_forth h1))) h2
  have hs := head_forth b1
  rw [(enc_text h2).1, b2, ← hs]
theorem dec_no {s : ByteArray} (h : (decR s).2 ≠ 0) : decR s = (rec0, 11) := by
  unfold decR endR at *
  split
  · next k => rw [if_pos k] at h; exact absurd rfl h
  · rfl
end Go.Proofs.Ythileemkiplodaa
namespace Go.Proofs.Ythileemkiplodaa
open Go.RowKit
set_option maxRecDepth 20000

/-- one field of a record turned, of those that some kinds have not -/
def turnR (o : Rec) (k : Nat) (p q : ByteArray) (a b c d e : Int) : Rec :=
  if k = 0 then { o with path := p } else if k = 1 then { o with dest := q } else if k = 2 then { o with size := a } else if k = 3 then { o with handle := b } else if k = 4 then { o with tick := c } else if k = 5 then { o with ino := d } else { o with off := e }
/-- it is as its kind has it, or without that field it is as it was -/
theorem turn_only {o : Rec} (h : goodO o = true) (k : Nat) (p q : ByteArray) (a b c d e : Int) : onlyR (turnR o k p q a b c d e) = turnR o k p q a b c d e ∨ onlyR (turnR o k p q a b c d e) = o := by
  obtain ⟨_, _, _, ho, hf⟩ := good_parts h
  have hk := form_kind hf
  clear h hf
  obtain ⟨o1, o2, o3, o4, o5, o6, o7, o8, o9, o10, o11, o12⟩ := o
  simp only at hk
  rcases hk with rfl | rfl | rfl | rfl | rfl | rfl | rfl | rfl | rfl | rfl | rfl | rfl | rfl | rfl
  all_goals
    simp [onlyR, rec0] at ho
    unfold turnR
    repeat' split
    all_goals simp [onlyR, rec0, ho]
theorem turn_good {o : Rec} (h : goodO o = true) (k : Nat) (p q : ByteArray) (a b c d e : Int) (hn : (onlyR (turnR o k p q a b c d e)).same (turnR o k p q a b c d e) = false) :
    goodO (onlyR (turnR o k p q a b c d e)) = true ∧ goodO (turnR o k p q a b c d e) = false ∧ encR (turnR o k p q a b c d e) = (⟨#[]⟩, 11) := by
  have hne : onlyR (turnR o k p q a b c d e) ≠ turnR o k p q a b c d e := by
    intro e
    rw [Rec.same_iff.2 e] at hn
    cases hn
  have hx : goodO (turnR o k p q a b c d e) = false := by
    cases hg : goodO (turnR o k p q a b c d e)
    · rfl
    · exact absurd (good_parts hg).2.2.2.1.symm hne
  refine ⟨?_, hx, encR_no hx⟩
  rcases turn_only h k p q a b c d e with h1 | h1
  · exact absurd h1 hne
  · rw [h1]; exact h
theorem enc_ok (o : Rec) : (decide ((encR o).2 = 0)) = goodO o := by
  cases h : goodO o
  · rw [encR_no h]; rfl
  · rw [(enc_text h).1]; rfl
end Go.Proofs.Ythileemkiplodaa
