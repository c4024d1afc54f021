/- Plain facts on the text of a projection: how it is packed, what is taken out; that the one is the other's opposite. No conditions. -/
import Derived.Test.YtbiihcoobknmjaaGa
import Derived.Test.YtbiihcoobknmjaaGh
set_option linter.unusedVariables false
namespace Go.Proofs.Ytbiihcoobknmjaa
open Go.RowKit
set_option maxRecDepth 20000

def stZ : St := ⟨⟨#[]⟩, false⟩
/-- numbers of one byte, one behind the other -/
def putsN (t : St) (c : List Int) : St := c.foldl (fun t u => t.num u 1) t
/-- a chain is packed -/
def packC (t : St) (c : List Int) : St := putsN (t.num c.length 1) c
/-- a projection is packed -/
def packP (ep : Int) (L : List (List Int)) : St := L.foldl packC ((stZ.num ep 4).num L.length 1)
theorem putsN_snoc (t : St) (c : List Int) (u : Int) : putsN t (c ++ [u]) = (putsN t c).num u 1 := by
  unfold putsN; rw [List.foldl_append]; rfl
theorem foldC_snoc (t : St) (L : List (List Int)) (c : List Int) : (L ++ [c]).foldl packC t = packC (L.foldl packC t) c := by
  rw [List.foldl_append]; rfl
/-- the bytes of it -/
def numsB : List Int → ByteArray
  | [] => ⟨#[]⟩
  | u :: c => putR u 1 ++ numsB c
def chB (c : List Int) : ByteArray := putR c.length 1 ++ numsB c
def chsB : List (List Int) → ByteArray
  | [] => ⟨#[]⟩
  | c :: L => chB c ++ chsB L
def projB (ep : Int) (L : List (List Int)) : ByteArray := putR ep 4 ++ (putR L.length 1 ++ chsB L)
theorem St.add_nil (t : St) : t.add ⟨#[]⟩ = t := by
  cases t; unfold St.add; rw [append_empty]
def byteOk (u : Int) : Prop := 0 ≤ u ∧ u < 256
theorem byteOk.num {u : Int} (h : byteOk u) : numOk u 1 := .inl ⟨rfl, h.1, h.2⟩
theorem num_ok {t : St} {v n : Int} (h : numOk v n) : t.num v n = t.add (putR v n) := if_pos h
theorem putsN_ok (t : St) (c : List Int) (h : ∀ u ∈ c, byteOk u) : putsN t c = t.add (numsB c) := by
  induction c generalizing t with
  | nil => exact (St.add_nil t).symm
  | cons u c ih =>
    show putsN (t.num u 1) c = _
    rw [num_ok (h u (by simp)).num, ih _ (fun v hv => h v (by simp [hv])), St.add_add]
    rfl
/-- a chain of bytes, of not too many -/
def chOk (c : List Int) : Prop := c.length < 256 ∧ ∀ u ∈ c, byteOk u
theorem packC_ok (t : St) (c : List Int) (h : chOk c) : packC t c = t.add (chB c) := by
  unfold packC
  rw [num_ok (byteOk.num ⟨by omega, by have := h.1; omega⟩), putsN_ok _ _ h.2, St.add_add]
  rfl
theorem foldC_ok (t : St) (L : List (List Int)) (h : ∀ c ∈ L, chOk c) : L.foldl packC t = t.add (chsB L) := by
  induction L generalizing t with
  | nil => exact (St.add_nil t).symm
  | cons c L ih =>
    show L.foldl packC (packC t c) = _
    rw [packC_ok _ _ (h c (by simp)), ih _ (fun v hv => h v (by simp [hv])), St.add_add]
    rfl
theorem chainB_ok {c : List Int} (h : chainB c = true) : chOk c := by
  obtain ⟨h1, h2⟩ := chainB_iff.1 h
  exact ⟨by omega, fun u hu => ⟨(h2 u hu).1, by have := (h2 u hu).2; omega⟩⟩
theorem packP_ok {ep : Int} {L : List (List Int)} (h : goodB ep L = true) : packP ep L = ⟨projB ep L, false⟩ := by
  obtain ⟨h1, h2, h3, _⟩ := goodB_iff.1 h
  unfold packP
  rw [num_ok (t := stZ) (show numOk ep 4 from .inr (.inr (.inl ⟨rfl, h1.1, by omega⟩))), num_ok (byteOk.num ⟨by omega, by omega⟩), foldC_ok _ _ (fun c hc => chainB_ok (h3 c hc)), St.add_add, St.add_add]
  unfold stZ St.add projB
  rw [empty_append]
theorem putR_one (u : Int) : (putR u 1).size = 1 := putR_len u 1 (by decide)
theorem numsB_size (c : List Int) : (numsB c).size = c.length := by
  induction c with
  | nil => rfl
  | cons u c ih =>
    show (putR u 1 ++ numsB c).size = _
    rw [ByteArray.size_append, putR_one, ih, List.length_cons]
    omega
theorem chB_size (c : List Int) : (chB c).size = 1 + c.length := by
  unfold chB
  rw [ByteArray.size_append, putR_one, numsB_size]
theorem chsB_size (L : List (List Int)) (h : ∀ c ∈ L, chainB c = true) : (chsB L).size ≤ 5 * L.length := by
  induction L with
  | nil => exact Nat.zero_le _
  | cons c L ih =>
    show (chB c ++ chsB L).size ≤ _
    have := ih (fun d hd => h d (by simp [hd]))
    have := (chainB_iff.1 (h c (by simp))).1
    rw [ByteArray.size_append, chB_size, List.length_cons]
    omega
theorem projB_size {ep : Int} {L : List (List Int)} (h : goodB ep L = true) : (projB ep L).size ≤ 25 := by
  obtain ⟨_, h2, h3, _⟩ := goodB_iff.1 h
  have := chsB_size L h3
  unfold projB
  rw [ByteArray.size_append, ByteArray.size_append, putR_one, show (putR ep 4).size = 4 from putR_len ep 4 (by decide)]
  omega
theorem packP_good {ep : Int} {L : List (List Int)} (h : goodB ep L = true) : (packP ep L).made = projB ep L ∧ (packP ep L).code = 0 := by
  have hs := projB_size h
  rw [packP_ok h]
  have h1 : ¬ 65536 < (projB ep L).size := by omega
  exact ⟨by simp [St.made, h1], by simp [St.code, h1]⟩
/-- the states on the way stay small -/
theorem St.num_size (t : St) (v n : Int) (h : 1 ≤ n ∧ n ≤ 8) : (t.num v n).s.size ≤ t.s.size + 8 := by
  unfold St.num
  split
  · show (t.s ++ putR v n).size ≤ _
    have := putR_small v n h
    rw [ByteArray.size_append]; omega
  · exact Nat.le_add_right _ _

/-- n numbers of one byte are taken out -/
def takeU : Nat → Option ByteArray → List Int × Option ByteArray
  | 0, o => ([], o)
  | n + 1, o => (numV o 1 :: (takeU n (numO o 1)).1, (takeU n (numO o 1)).2)
/-- n chains are taken out -/
def takeC : Nat → Option ByteArray → List (List Int) × Option ByteArray
  | 0, o => ([], o)
  | n + 1, o => ((takeU (numV o 1).toNat (numO o 1)).1 :: (takeC n (takeU (numV o 1).toNat (numO o 1)).2).1, (takeC n (takeU (numV o 1).toNat (numO o 1)).2).2)
theorem takeC_step (n : Nat) (o : Option ByteArray) : takeC (n + 1) o = ((takeU (numV o 1).toNat (numO o 1)).1 :: (takeC n (takeU (numV o 1).toNat (numO o 1)).2).1, (takeC n (takeU (numV o 1).toNat (numO o 1)).2).2) := rfl
theorem takeU_snoc (n : Nat) (o : Option ByteArray) : takeU (n + 1) o = ((takeU n o).1 ++ [numV (takeU n o).2 1], numO (takeU n o).2 1) := by
  induction n generalizing o with
  | zero => rfl
  | succ n ih =>
    show (numV o 1 :: (takeU (n + 1) (numO o 1)).1, (takeU (n + 1) (numO o 1)).2) = _
    rw [ih]
    rfl
theorem takeU_length (n : Nat) (o : Option ByteArray) : (takeU n o).1.length = n := by
  induction n generalizing o with
  | zero => rfl
  | succ n ih => simp [takeU, ih]
theorem takeC_snoc (n : Nat) (o : Option ByteArray) : takeC (n + 1) o = ((takeC n o).1 ++ [(takeU (numV (takeC n o).2 1).toNat (numO (takeC n o).2 1)).1], (takeU (numV (takeC n o).2 1).toNat (numO (takeC n o).2 1)).2) := by
  induction n generalizing o with
  | zero => rfl
  | succ n ih =>
    show (_ :: (takeC (n + 1) (takeU (numV o 1).toNat (numO o 1)).2).1, (takeC (n + 1) (takeU (numV o 1).toNat (numO o 1)).2).2) = _
    rw [ih]
    rfl
theorem takeC_length (n : Nat) (o : Option ByteArray) : (takeC n o).1.length = n := by
  induction n generalizing o with
  | zero => rfl
  | succ n ih => simp [takeC, ih]
theorem numV_one (o : Option ByteArray) : 0 ≤ numV o 1 ∧ numV o 1 < 256 := by
  unfold numV
  split
  · have h := getI_bound (cutL (ukL o) 0 (1 : Int).toNat)
    have hl : (cutL (ukL o) 0 (1 : Int).toNat).length ≤ 1 := by
      unfold cutL; rw [List.length_take]; exact Nat.min_le_left _ _
    have hp : (256 : Int) ^ (cutL (ukL o) 0 (1 : Int).toNat).length ≤ 256 := by
      rcases Nat.le_one_iff_eq_zero_or_eq_one.1 hl with h | h <;> rw [h] <;> decide
    exact ⟨h.1, by have := h.2; omega⟩
  · exact ⟨by decide, by decide⟩
theorem takeU_bytes (n : Nat) (o : Option ByteArray) : ∀ u ∈ (takeU n o).1, byteOk u := by
  induction n generalizing o with
  | zero => intro u hu; cases hu
  | succ n ih =>
    intro u hu
    rcases List.mem_cons.1 hu with rfl | hu
    · exact numV_one o
    · exact ih _ u hu
theorem takeU_size (n : Nat) (o : Option ByteArray) : (ukL (takeU n o).2).size ≤ (ukL o).size := by
  induction n generalizing o with
  | zero => exact Nat.le_refl _
  | succ n ih => exact Nat.le_trans (ih _) (numO_size o 1)
theorem takeC_size (n : Nat) (o : Option ByteArray) : (ukL (takeC n o).2).size ≤ (ukL o).size := by
  induction n generalizing o with
  | zero => exact Nat.le_refl _
  | succ n ih => exact Nat.le_trans (ih _) (Nat.le_trans (takeU_size _ _) (numO_size o 1))
theorem takeU_back (c : List Int) (R : ByteArray) (h : ∀ u ∈ c, byteOk u) : takeU c.length (some (numsB c ++ R)) = (c, some R) := by
  induction c with
  | nil => show ([], some (⟨#[]⟩ ++ R)) = _; rw [empty_append]
  | cons u c ih =>
    have hu := h u (by simp)
    obtain ⟨e1, e2⟩ := num_back u 1 (numsB c ++ R) hu.num (by have := hu.2; omega)
    show (numV (some ((putR u 1 ++ numsB c) ++ R)) 1 :: (takeU c.length (numO (some ((putR u 1 ++ numsB c) ++ R)) 1)).1, (takeU c.length (numO (some ((putR u 1 ++ numsB c) ++ R)) 1)).2) = _
    rw [ByteArray.append_assoc, e1, e2, ih (fun v hv => h v (by simp [hv]))]
theorem takeC_back (L : List (List Int)) (R : ByteArray) (h : ∀ c ∈ L, chOk c) : takeC L.length (some (chsB L ++ R)) = (L, some R) := by
  induction L with
  | nil => show ([], some (⟨#[]⟩ ++ R)) = _; rw [empty_append]
  | cons c L ih =>
    have hc := h c (by simp)
    have hl := hc.1
    obtain ⟨e1, e2⟩ := num_back (c.length : Int) 1 (numsB c ++ (chsB L ++ R)) (byteOk.num ⟨by omega, by omega⟩) (by omega)
    have e3 := takeU_back c (chsB L ++ R) hc.2
    have hs : some (chsB (c :: L) ++ R) = some (putR (c.length : Int) 1 ++ (numsB c ++ (chsB L ++ R))) := by
      show some (((putR (c.length : Int) 1 ++ numsB c) ++ chsB L) ++ R) = _
      rw [ByteArray.append_assoc, ByteArray.append_assoc]
    rw [List.length_cons, takeC_step, hs, e1, e2, Int.toNat_natCast, e3, ih (fun v hv => h v (by simp [hv]))]
theorem takeU_forth (n : Nat) (o : Option ByteArray) (R : ByteArray) (h : (takeU n o).2 = some R) : o = some (numsB (takeU n o).1 ++ R) := by
  induction n generalizing o with
  | zero =>
    show o = some (⟨#[]⟩ ++ R)
    rw [empty_append]
    exact h
  | succ n ih =>
    have e := ih _ h
    obtain ⟨e1, _, _⟩ := num_forth e
    show o = some ((putR (numV o 1) 1 ++ numsB (takeU n (numO o 1)).1) ++ R)
    rw [ByteArray.append_assoc]
    exact e1
theorem takeC_forth (n : Nat) (o : Option ByteArray) (R : ByteArray) (h : (takeC n o).2 = some R) : o = some (chsB (takeC n o).1 ++ R) := by
  induction n generalizing o with
  | zero =>
    show o = some (⟨#[]⟩ ++ R)
    rw [empty_append]
    exact h
  | succ n ih =>
    have e := ih _ h
    have e2 := takeU_forth _ _ _ e
    obtain ⟨e1, _, _⟩ := num_forth e2
    have hn := numV_one o
    have hl := takeU_length (numV o 1).toNat (numO o 1)
    show o = some ((putR ((takeU (numV o 1).toNat (numO o 1)).1.length : Int) 1 ++ numsB (takeU (numV o 1).toNat (numO o 1)).1) ++ chsB (takeC n (takeU (numV o 1).toNat (numO o 1)).2).1 ++ R)
    rw [hl, Int.toNat_of_nonneg hn.1, ByteArray.append_assoc, ByteArray.append_assoc]
    exact e1
/-- a text is taken apart: its epoch, its chains, what is left -/
def openE (s : ByteArray) : Int := numV (some s) 4
def openC (s : ByteArray) : List (List Int) := (takeC (numV (numO (some s) 4) 1).toNat (numO (numO (some s) 4) 1)).1
def openO (s : ByteArray) : Option ByteArray := (takeC (numV (numO (some s) 4) 1).toNat (numO (numO (some s) 4) 1)).2
/-- is it a good projection's text? -/
def codeB (s : ByteArray) : Bool := decide (ukE (openO s) = 0) && goodB (openE s) (openC s)
theorem open_at {s : ByteArray} {ep : Int} {L : List (List Int)} {x y : Option ByteArray} (e1 : numV (some s) 4 = ep) (e2 : numO (some s) 4 = x) (e3 : numV x 1 = (L.length : Int)) (e4 : numO x 1 = y) (e5 : takeC L.length y = (L, some ⟨#[]⟩)) :
    openE s = ep ∧ openC s = L ∧ openO s = some ⟨#[]⟩ := by
  unfold openE openC openO
  rw [e1, e2, e3, e4, Int.toNat_natCast, e5]
  exact ⟨rfl, rfl, rfl⟩
theorem open_back {ep : Int} {L : List (List Int)} (h : goodB ep L = true) : openE (projB ep L) = ep ∧ openC (projB ep L) = L ∧ openO (projB ep L) = some ⟨#[]⟩ := by
  obtain ⟨h1, h2, h3, _⟩ := goodB_iff.1 h
  have ok4 : numOk ep 4 := .inr (.inr (.inl ⟨rfl, h1.1, by omega⟩))
  have ok1 : numOk (L.length : Int) 1 := byteOk.num ⟨by omega, by omega⟩
  have b4 : ep ≤ 9223372036854775807 := by omega
  have b1 : (L.length : Int) ≤ 9223372036854775807 := by omega
  have e5 := takeC_back L ⟨#[]⟩ (fun c hc => chainB_ok (h3 c hc))
  rw [append_empty] at e5
  have n4 := num_back ep 4 (putR L.length 1 ++ chsB L) ok4 b4
  have n1 := num_back (L.length : Int) 1 (chsB L) ok1 b1
  exact open_at n4.1 n4.2 n1.1 n1.2 e5
theorem code_back {ep : Int} {L : List (List Int)} (h : goodB ep L = true) : codeB (projB ep L) = true := by
  obtain ⟨e1, e2, e3⟩ := open_back h
  unfold codeB
  rw [e1, e2, e3, h]
  rfl
theorem code_forth {s : ByteArray} (h : codeB s = true) : goodB (openE s) (openC s) = true ∧ projB (openE s) (openC s) = s := by
  unfold codeB at h
  rw [Bool.and_eq_true, decide_eq_true_eq] at h
  refine ⟨h.2, ?_⟩
  have e0 := end_forth h.1
  have e := takeC_forth _ _ _ e0
  obtain ⟨e1, _, _⟩ := num_forth e
  obtain ⟨e2, _, _⟩ := num_forth e1
  have hn := numV_one (numO (some s) 4)
  have hl := takeC_length (numV (numO (some s) 4) 1).toNat (numO (numO (some s) 4) 1)
  rw [append_empty] at e2
  unfold projB openE openC
  rw [hl, Int.toNat_of_nonneg hn.1]
  exact (Option.some.inj e2).symm
end Go.Proofs.Ytbiihcoobknmjaa
