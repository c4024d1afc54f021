/- Stage 20: what a table of inodes is stays one, whatever is called. No conditions. Plain facts: the numbers of pieces are within bounds. No conditions but those that the statements name. -/
import Derived.Test.YtfkgeefoknaldaaG07b
set_option linter.unusedVariables false
namespace Go.Proofs.Ytfkgeefoknaldaa
set_option linter.unusedVariables false
set_option maxRecDepth 20000
theorem goodE_end {l : List Pt} (h : goodE l = true) : endE l = endL l := by unfold endE; rw [if_pos h]
theorem cutI_is {l : List Pt} (h : goodE l = true) {k : Int} (hk : 0 ≤ k) : cutE l k = cutL k l := by
  unfold cutE
  rw [if_pos h, show max k 0 = k from by omega, cut_is (goodE_iff.1 h).2]
theorem cutI_good {l : List Pt} (h : goodE l = true) {k : Int} (hk : 0 ≤ k) : goodE (cutE l k) = true := by
  obtain ⟨h1, h2⟩ := goodE_iff.1 h
  rw [cutI_is h hk]
  exact goodE_iff.2 ⟨Nat.le_trans (cutL_len _ _) h1, (cutL_ok _ h2).1⟩
theorem cutI_at {l : List Pt} (h : goodE l = true) {k : Int} (hk : 0 ≤ k) (i : Int) : atE (cutE l k) i = if i < k then atE l i else none := by
  rw [cutI_is h hk, (cutL_ok _ (goodE_iff.1 h).2).2]
/-- where no byte at k or behind is told, the end is at most k -/
theorem end_le {l : List Pt} (h : goodE l = true) {k : Int} (hk : 0 ≤ k) (ha : ∀ i, k ≤ i → atE l i = none) : endE l ≤ k := by
  rw [goodE_end h]
  obtain ⟨⟨a, b⟩, c, d⟩ := rail_end (goodE_iff.1 h).2
  by_cases q : 0 < endL l
  · by_cases r : k ≤ endL l - 1
    · exact absurd (ha _ r) (d q)
    · omega
  · omega
theorem end_none {l : List Pt} (h : goodE l = true) {i : Int} (hi : endE l ≤ i) : atE l i = none := by
  rw [goodE_end h] at hi
  exact (rail_end (goodE_iff.1 h).2).2.1 i hi
theorem end_pos {l : List Pt} (h : goodE l = true) : 0 ≤ endE l ∧ endE l ≤ 8192 := by
  rw [goodE_end h]
  exact (rail_end (goodE_iff.1 h).2).1
theorem cutI_end {l : List Pt} (h : goodE l = true) {k : Int} (hk : 0 ≤ k) : endE (cutE l k) ≤ k :=
  end_le (cutI_good h hk) hk (fun i hi => by rw [cutI_at h hk, if_neg (by omega)])
/-- each part of good ones ends at their end at most -/
theorem part_end {l : List Pt} (h : goodE l = true) {x : Pt} (hx : x ∈ l) : x.off + x.len ≤ endE l := by
  have hr := (goodE_iff.1 h).2
  have h1 := rail_one hr x hx
  obtain ⟨o1, o2, o3, o4, o5, o6, o7⟩ := oneB_iff.1 h1
  by_cases q : x.off + x.len ≤ endE l
  · exact q
  · have hn := end_none h (i := x.off + x.len - 1) (by omega)
    have hs : atE l (x.off + x.len - 1) ≠ none := by
      clear hn q h
      induction l with
      | nil => cases hx
      | cons y l ih =>
        by_cases hy : y.off ≤ x.off + x.len - 1 ∧ x.off + x.len - 1 < y.off + y.len
        · rw [atE_yes hy]; simp
        · rw [atE_no hy]
          rcases List.mem_cons.1 hx with rfl | hx
          · omega
          · exact ih hx (railB_cons hr).2.1
    exact absurd hn hs
theorem putI_is {l : List Pt} (h : goodE l = true) {x : Pt} (he : (putE l x).2 = 0) : goodE (putE l x).1 = true ∧ oneB x = true ∧ ∀ i, atE (putE l x).1 i = if x.off ≤ i ∧ i < x.off + x.len then some (x.addr, x.src + (i - x.off)) else atE l i := by
  have hr := (goodE_iff.1 h).2
  unfold putE at he ⊢
  rw [if_pos h] at he ⊢
  by_cases g : oneB x = true
  · rw [if_pos g] at he ⊢
    obtain ⟨h3, h4⟩ := put_tell hr g
    unfold fewE at he ⊢
    by_cases q : (gatE (putF (spF l) x) 8192).length ≤ 64
    · rw [if_pos q] at he ⊢
      exact ⟨goodE_iff.2 ⟨q, h3⟩, g, h4⟩
    · rw [if_neg q] at he
      exact absurd he (by decide)
  · rw [if_neg g] at he
    exact absurd he (by decide)
theorem putI_end {l : List Pt} (h : goodE l = true) {x : Pt} (he : (putE l x).2 = 0) {s : Int} (hs : endE l ≤ s) : endE (putE l x).1 ≤ max s (x.off + x.len) := by
  obtain ⟨h1, h2, h3⟩ := putI_is h he
  have := end_pos h
  exact end_le h1 (by omega) (fun i hi => by rw [h3, if_neg (by omega)]; exact end_none h (by omega))
theorem moveI_is {l : List Pt} (h : goodE l = true) {m : Mv} {to : Int} (he : (moveE l m to).2 = 0) : goodE (moveE l m to).1 = true ∧ endE (moveE l m to).1 = endE l := by
  have hr := (goodE_iff.1 h).2
  unfold moveE at he ⊢
  rw [if_pos h] at he ⊢
  by_cases g : mayB m to = true
  · rw [if_pos g] at he ⊢
    obtain ⟨h3, h4⟩ := mov_tell hr g
    have h5 := mov_end hr g
    unfold fewE at he ⊢
    by_cases q : (gatE (mvF m to (spF l)) 8192).length ≤ 64
    · rw [if_pos q] at he ⊢
      have hg : goodE (gatE (mvF m to (spF l)) 8192) = true := goodE_iff.2 ⟨q, h3⟩
      exact ⟨hg, by rw [goodE_end hg, goodE_end h, h5]⟩
    · rw [if_neg q] at he
      exact absurd he (by decide)
  · rw [if_neg g] at he
    exact absurd he (by decide)
theorem movesI_is {l : List Pt} (h : goodE l = true) (ms : List Mv) {to : Int} (he : (movesE to l ms).2 = 0) : goodE (movesE to l ms).1 = true ∧ endE (movesE to l ms).1 = endE l := by
  induction ms generalizing l with
  | nil => exact ⟨h, rfl⟩
  | cons m ms ih =>
    unfold movesE at he ⊢
    by_cases g : (moveE l m to).2 = 0
    · rw [if_pos g] at he ⊢
      obtain ⟨h1, h2⟩ := moveI_is h g
      obtain ⟨h3, h4⟩ := ih h1 he
      exact ⟨h3, h4.trans h2⟩
    · rw [if_neg g] at he
      exact absurd he g
theorem inoB_not {next : Int} {x : Ino} (h : inoB next x) (hk : ¬ x.kind = 1) : x.kind = 2 := h.2.1.resolve_left hk
theorem TbI.make {t : Tb} (h : TbI t) (k : Int) : TbI (makeI t k).1 := by
  unfold makeI
  by_cases hk : kindB k = true
  · rw [if_pos hk]
    by_cases hl : t.l.length < 64
    · rw [if_pos hl]
      have h2 := h.next
      refine ⟨fun x hx => ?_, ?_, by show (t.l ++ [_]).length ≤ 64; simp; omega, ?_, by show 2 ≤ t.next + 1; omega⟩
      · rcases List.mem_append.1 hx with hx | hx
        · obtain ⟨⟨a, b⟩, c⟩ := h.each x hx
          exact ⟨⟨a, by show x.ino < t.next + 1; omega⟩, c⟩
        · rw [List.mem_singleton.1 hx]
          exact ⟨⟨by show 1 ≤ t.next; omega, by show t.next < t.next + 1; omega⟩, of_decide_eq_true hk, ⟨Int.le_refl 0, show (0 : Int) ≤ 8 by decide⟩, ⟨Int.le_refl 0, show (0 : Int) ≤ 128 by decide⟩, fun _ => ⟨rfl, rfl, rfl⟩, ⟨Int.le_refl 0, show (0 : Int) ≤ 8192 by decide⟩, show goodE [] = true by kernel_rfl, show endE [] ≤ 0 by decide +kernel⟩
      · show (t.l ++ [_]).Pairwise _
        rw [List.pairwise_append]
        exact ⟨h.rise, List.pairwise_singleton _ _, fun x hx y hy => by rw [List.mem_singleton.1 hy]; exact (h.each x hx).1.2⟩
      · obtain ⟨m, hm⟩ := h.root
        exact ⟨m ++ [⟨t.next, k, 0, 0, 0, []⟩], by show t.l ++ _ = _; rw [hm]; rfl⟩
    · rw [if_neg hl]; exact h
  · rw [if_neg hk]; exact h
theorem TbI.link {t : Tb} (h : TbI t) (n by_ : Int) : TbI (linkI t n by_).1 := by
  unfold linkI
  split
  · exact h
  · next x hx =>
    by_cases c : stepB by_ = true ∧ n ≠ 1
    · rw [if_pos c]
      by_cases d : 0 ≤ x.links + by_ ∧ x.links + by_ ≤ 8
      · rw [if_pos d]
        obtain ⟨b1, b2, b3, b4⟩ := h.each x (getI_some hx).1
        have ht : TbI ⟨turnI t.l n (fun y => { y with links := y.links + by_ }), t.next⟩ := h.turn hx c.2 rfl ⟨b1, b2, d, b4⟩
        by_cases e : by_ < 0
        · show TbI ⟨if by_ < 0 then _ else _, t.next⟩
          rw [if_pos e]
          exact ht.ends n
        · show TbI ⟨if by_ < 0 then _ else _, t.next⟩
          rw [if_neg e]
          exact ht
      · rw [if_neg d]; exact h
    · rw [if_neg c]; exact h
theorem TbI.not_root {t : Tb} (h : TbI t) {n : Int} {x : Ino} (hx : getI t.l n = some x) (hk : ¬ x.kind = 1) : n ≠ 1 := fun e => by
  obtain ⟨m, hm⟩ := h.root
  obtain ⟨h1, h2⟩ := getI_some hx
  have := h.only h1 (by rw [hm]; exact List.mem_cons_self) (show x.ino = rootI.ino from h2.trans e)
  exact hk (by rw [this]; rfl)
theorem TbI.opens {t : Tb} (h : TbI t) (n by_ : Int) : TbI (openI t n by_).1 := by
  unfold openI
  split
  · exact h
  · next x hx =>
    by_cases c : stepB by_ = true
    · rw [if_pos c]
      by_cases k : x.kind = 1
      · rw [if_pos k]; exact h
      · rw [if_neg k]
        by_cases d : 0 ≤ x.opens + by_ ∧ x.opens + by_ ≤ 128
        · rw [if_pos d]
          obtain ⟨b1, b2, b3, b4, b5, b6⟩ := h.each x (getI_some hx).1
          have ht : TbI ⟨turnI t.l n (fun y => { y with opens := y.opens + by_ }), t.next⟩ := h.turn hx (h.not_root hx k) rfl ⟨b1, b2, b3, d, fun e => absurd e k, b6⟩
          by_cases e : by_ < 0
          · show TbI ⟨if by_ < 0 then _ else _, t.next⟩
            rw [if_pos e]
            exact ht.ends n
          · show TbI ⟨if by_ < 0 then _ else _, t.next⟩
            rw [if_neg e]
            exact ht
        · rw [if_neg d]; exact h
    · rw [if_neg c]; exact h
theorem TbI.file {t : Tb} (h : TbI t) (n : Int) (f : Ino → Ino × Int) (hf : ∀ x, inoB t.next x → ¬ x.kind = 1 → (f x).1.ino = x.ino ∧ inoB t.next (f x).1) : TbI (fileI t n f).1 := by
  unfold fileI
  split
  · exact h
  · next x hx =>
    by_cases k : x.kind = 1
    · rw [if_pos k]; exact h
    · rw [if_neg k]
      obtain ⟨h1, h2⟩ := hf x (h.each x (getI_some hx).1) k
      exact h.turn hx (h.not_root hx k) h1 h2
theorem TbI.write {t : Tb} (h : TbI t) (n off k addr : Int) : TbI (writeI t n off k addr).1 := h.file n _ (fun x hx hk => by
  unfold writeF
  by_cases c : 0 ≤ off ∧ off ≤ 8192 ∧ 1 ≤ k ∧ k ≤ 1024 ∧ off + k ≤ 8192
  · rw [if_pos c]
    by_cases d : (putE x.parts ⟨off, k, addr, 0⟩).2 = 0
    · rw [if_pos d]
      obtain ⟨b1, b2, b3, b4, b5, b6, b7, b8⟩ := hx
      exact ⟨rfl, b1, b2, b3, b4, fun e => absurd e hk, ⟨by show 0 ≤ max x.size (off + k); omega, by show max x.size (off + k) ≤ 8192; omega⟩, (putI_is b7 d).1, putI_end b7 d b8⟩
    · rw [if_neg d]; exact ⟨rfl, hx⟩
  · rw [if_neg c]; exact ⟨rfl, hx⟩)
theorem TbI.trunc {t : Tb} (h : TbI t) (n s : Int) : TbI (truncI t n s).1 := h.file n _ (fun x hx hk => by
  unfold truncF
  by_cases c : 0 ≤ s ∧ s ≤ 8192
  · rw [if_pos c]
    obtain ⟨b1, b2, b3, b4, b5, b6, b7, b8⟩ := hx
    exact ⟨rfl, b1, b2, b3, b4, fun e => absurd e hk, c, cutI_good b7 c.1, cutI_end b7 c.1⟩
  · rw [if_neg c]; exact ⟨rfl, hx⟩)
theorem TbI.mov {t : Tb} (h : TbI t) (n : Int) (ms : List Mv) (to : Int) : TbI (movI t n ms to).1 := h.file n _ (fun x hx hk => by
  unfold moveF
  by_cases d : (movesE to x.parts ms).2 = 0
  · rw [if_pos d]
    obtain ⟨b1, b2, b3, b4, b5, b6, b7, b8⟩ := hx
    obtain ⟨c1, c2⟩ := movesI_is b7 ms d
    exact ⟨rfl, b1, b2, b3, b4, fun e => absurd e hk, b6, c1, by show endE (movesE to x.parts ms).1 ≤ x.size; rw [c2]; exact b8⟩
  · rw [if_neg d]; exact ⟨rfl, hx⟩)
end Go.Proofs.Ytfkgeefoknaldaa
namespace Go.Proofs.Ytfkgeefoknaldaa
set_option linter.unusedVariables false
set_option maxRecDepth 20000
open Go.RowKit
/-- numbers of a part that stands in a file, or of a hole -/
def midP (x : Pt) : Prop := (0 ≤ x.off ∧ x.off ≤ 8192) ∧ (0 ≤ x.len ∧ x.len ≤ 8192) ∧ (-1 ≤ x.addr ∧ x.addr ≤ 16384) ∧ (0 ≤ x.src ∧ x.src ≤ 1024)
theorem midP_one {x : Pt} (h : oneB x = true) : midP x := by
  have := oneB_iff.1 h
  unfold midP
  omega
theorem byt_mid {g : MapF} (hg : soundG g) (i : Nat) : (-1 ≤ (bytG g i).1 ∧ (bytG g i).1 ≤ 16384) ∧ 0 ≤ (bytG g i).2 ∧ (bytG g i).2 ≤ 1024 := by
  unfold bytG
  cases e : g i with
  | none => exact ⟨⟨by decide, by decide⟩, by decide, by decide⟩
  | some x =>
    obtain ⟨a, f⟩ := x
    have := hg _ _ _ e
    show (-1 ≤ a ∧ a ≤ 16384) ∧ 0 ≤ f ∧ f ≤ 1024
    omega
theorem pc_mid {g : MapF} (hg : soundG g) {i : Nat} (hi : i < 8192) : midP (pcE (bytG g) i) := by
  have := byt_mid hg i
  exact ⟨⟨by show (0 : Int) ≤ (i : Int); omega, by show (i : Int) ≤ 8192; omega⟩, ⟨by show (0 : Int) ≤ 1; decide, by show (1 : Int) ≤ 8192; decide⟩, this.1, this.2⟩
theorem pcs_mid {g : MapF} (hg : soundG g) {o n : Nat} (hn : o + n ≤ 8192) : (pcsE (bytG g) o n).length ≤ n ∧ ∀ x ∈ pcsE (bytG g) o n, midP x := by
  induction n with
  | zero => exact ⟨Nat.le_refl _, fun x hx => by cases hx⟩
  | succ n ih =>
    obtain ⟨h1, h2⟩ := ih (by omega)
    have hp := pc_mid hg (i := o + n) (by omega)
    show (joinP (pcsE (bytG g) o n) (pcE (bytG g) (o + n))).length ≤ n + 1 ∧ ∀ x ∈ joinP (pcsE (bytG g) o n) (pcE (bytG g) (o + n)), midP x
    rcases pcs_last (bytG g) o n with ⟨e, rfl⟩ | ⟨m, y, e, g1, g2, g3⟩
    · rw [e, joinP_nil]
      refine ⟨Nat.le_refl _, fun x hx => ?_⟩
      rw [List.mem_singleton.1 hx]
      exact hp
    · rw [e] at h1 h2 ⊢
      rw [joinP_snoc]
      have ey : y.stop = y.off + y.len := rfl
      have hy := h2 y (by simp)
      by_cases c : goesB y (pcE (bytG g) (o + n)) = true
      · rw [if_pos c]
        refine ⟨by simp at h1 ⊢; omega, fun x hx => ?_⟩
        rcases List.mem_append.1 hx with hx | hx
        · exact h2 x (List.mem_append_left _ hx)
        · rw [List.mem_singleton.1 hx]
          obtain ⟨a1, a2, a3, a4⟩ := hy
          exact ⟨a1, ⟨by show 0 ≤ y.len + 1; omega, by show y.len + 1 ≤ 8192; omega⟩, a3, a4⟩
      · rw [if_neg c]
        refine ⟨by simp at h1 ⊢; omega, fun x hx => ?_⟩
        rcases List.mem_append.1 hx with hx | hx
        · exact h2 x hx
        · rw [List.mem_singleton.1 hx]
          exact hp
theorem pcs_succ (b : ByteF) (o n : Nat) : pcsE b o (n + 1) = joinP (pcsE b o n) (pcE b (o + n)) := rfl
theorem laid_step {l : List Pt} {k : Nat} (h : k < l.length) : laidE (l.take (k + 1)) = layG (laidE (l.take k)) l[k] := by
  rw [List.take_succ_eq_append_getElem h, laidE_snoc]
theorem partG_end {o e : Int} {g : MapF} {x : Pt} {at_ : Int} (h1 : max x.off o ≤ at_) (h2 : at_ ≤ max (max x.off o) (min x.stop e)) (h3 : ¬ at_ < min x.stop e) : partG o e g x at_ = clipG o e (layG g x) :=
  part_done (by omega)
theorem clip_none (o e : Int) : clipG o e (laidE []) = fun _ => none := by
  funext u
  unfold clipG laidE
  split <;> rfl
end Go.Proofs.Ytfkgeefoknaldaa
