/- Whether the moves of a record are good; what clearing them does. Conditions: the moves lie where the call was told; at most 1000000 of them. Plain facts: a record has a form if and only if all its fields are good and nothing is left of it when they are cleared. No conditions. What each field tells when it is asked, and does when it is cleared, within Good. Conditions: the record lies in block b; sizes of at most 1000000. Plain facts: what is packed of a record's fields is its text; each fits. No conditions. Plain facts: what is taken into a record's fields is what the document takes, or both tell that there is none. No conditions. -/
import Derived.Test.YthileemkiplodaaGz
import Derived.Test.YthileemkiplodaaGm
import Derived.Test.YthileemkiplodaaGj
import Derived.Test.YthileemkiplodaaGx
set_option linter.unusedVariables false
namespace Go.Proofs.Ythileemkiplodaa
open Go.RowKit
set_option maxRecDepth 20000

theorem mclear_any (b j : Nat) (d : Int) (cs : Array Value) (T : TypeId) (w : World) (h : w.heap[b]? = some (.cells cs T (0, 0))) (hj : ∃ ao n cap, cs[j]? = some (.slice ao n cap)) :
    Calls Try.prog 103 #[.agg #[.pointer (some ⟨b, j, none⟩), .int .i64 d]] w fun e w' => e = .returned (.tuple #[]) ∧ w'.heap[b]? = some (.cells (cs.setIfInBounds j (.slice none 0 0)) T (0, 0)) ∧ Kept (fun k => k ≠ b) w w' := by
  obtain ⟨ao, n, cap, hj⟩ := hj
  have HK := Lib.hid (fun (x : Obj) (u : Value) => show Kept (fun k => k ≠ b) w ((w.alloc x).setCell ⟨b, j, none⟩ u) from ((Kept.refl _ _).alloc _).setCell (by simp) _)
  have HH := Lib.hid (fun (x : Obj) (u : Value) => heap_setCell_same (w.alloc x) b j cs T u (heap_past h x))
  have hc := fun x => (cell_of (heap_past h x) j).trans hj
  have hf := fun x => free_of (heap_past h x) j
  clear h hj
  go_enter Try.func103, Try.ntmps103
  go_wp2
  go_end0
  exact ⟨rfl, HH.out _ _, HK.out _ _⟩
theorem mvNF_good (d : Int) (m : Mv) : (mvNF 0 m (wrap64 (d - m.len))).all (fun f => inR f.v f.lo f.hi) = mvC d m := by
  simp [mvNF, mvC]
theorem all_no {α : Type} {L : List α} {p : α → Bool} {k : Nat} (h : k < L.length) (e : p L[k] = false) : L.all p = false := by
  apply Bool.eq_false_iff.2
  intro ha
  have := List.all_eq_true.1 ha _ (List.getElem_mem h)
  rw [e] at this
  cases this
theorem all_yes {α : Type} {L : List α} {p : α → Bool} {k : Nat} (h : k < L.length) (ha : (L.take k).all p = true) (e : p L[k] = true) : (L.take (k + 1)).all p = true := by
  rw [List.take_succ_eq_append_getElem h, List.all_append, ha]
  simp [e]
def mvsG (d : Int) (L : List Mv) : Bool := inR L.length 1 16 && L.all (mvC d)
set_option maxHeartbeats 4000000 in
theorem mgood_any (b j : Nat) (d : Int) (ao : Option Addr) (cap : Nat) (L : List Mv) (w : World) (hj : w.cell? ⟨b, j, none⟩ = some (.slice ao L.length cap)) (hV : VLI w ao cap L) (hl : L.length ≤ 1000000) :
    Calls Try.prog 104 #[.agg #[.pointer (some ⟨b, j, none⟩), .int .i64 d]] w fun e w' => e = .returned (.bool (mvsG d L)) ∧ Below w.heap.size w w' := by
  have hl' : (L.length : Int) ≤ 1000000 := by omega
  have HB := Lib.hid (fun (x : Obj) => show Below w.heap.size w (w.alloc x) from (Below.refl _ _).alloc (Nat.le_refl _) _)
  have hc := fun x => cell_new hj x
  by_cases h1 : L.length < 1
  · rw [show mvsG d L = false by unfold mvsG; rw [inR_lo (by omega)]; rfl]
    have h1' : (L.length : Int) < 1 := by omega
    clear h1 hj hV
    go_enter Try.func104, Try.ntmps104
    go_wp2
    go_ret
    exact ⟨rfl, HB.out _⟩
  by_cases h2 : 16 < L.length
  · rw [show mvsG d L = false by unfold mvsG; rw [inR_hi (by omega)]; rfl]
    have h1' : ¬ (L.length : Int) < 1 := by omega
    have h2' : (16 : Int) < L.length := by omega
    clear h1 h2 hj hV
    go_enter Try.func104, Try.ntmps104
    go_wp2
    go_ret
    exact ⟨rfl, HB.out _⟩
  rw [show mvsG d L = L.all (mvC d) by unfold mvsG; rw [inR_iff.2 (by omega)]; rfl]
  have h1' : ¬ (L.length : Int) < 1 := by omega
  have h2' : ¬ (16 : Int) < L.length := by omega
  have HV := Lib.hid hV
  have HBX := Lib.hid (fun (x : Obj) => show (w.alloc x).heap[w.heap.size]? = some x from heap_alloc_new w x)
  clear h1 h2 hj hV
  go_enter Try.func104, Try.ntmps104
  go_wp2
  clear hc h1' h2'
  go_loopw [26] (fun i wr => ∃ k : Nat, i = .int .i64 k ∧ k ≤ L.length ∧ Hid ((L.take k).all (mvC d) = true ∧ Below (w.heap.size + 1) (w.alloc (.cells #[.pointer (some ⟨b, j, none⟩), .int .i64 d] 106)) wr)) (fun i _ => L.length - (intOf i).toNat)
  case atStart => exact ⟨0, rfl, Nat.zero_le _, Lib.hid ⟨by simp, Below.refl _ _⟩⟩
  case round =>
    obtain ⟨k, rfl, hk, HT⟩ := hrel
    by_cases hlt : k < L.length
    rotate_left
    · obtain rfl : k = L.length := by omega
      have HT2 := HT.out
      rw [List.take_of_length_le (Nat.le_refl _)] at HT2
      have HT3 := Lib.hid HT2
      clear HT2
      go_wp2
      go_ret
      rw [HT3.out.1]
      exact ⟨rfl, (HB.out _).trans (HT3.out.2.mono (by omega))⟩
    have hbr := HT.out.2
    have hx := (hbr.block w.heap.size (by omega)).trans (HBX.out _)
    have c0 := cell_of hx 0
    have c1 := cell_of hx 1
    obtain ⟨bk, off, rfl, x0, x1, x2, x3⟩ := (HV.out.below (HB.out (.cells #[.pointer (some ⟨b, j, none⟩), .int .i64 d] 106))).1.below (hbr.mono (by simp)) k hlt
    have zb := block_lt_of_cell x0
    have zc := block_lt_of_cell c0
    simp only at zb zc
    have d0 := fun x => cell_new c0 x
    have d1 := fun x => cell_new c1 x
    clear hx
    have HNO := Lib.hid (show mvC d L[k] = false → L.all (mvC d) = false from all_no hlt)
    have HYES := Lib.hid (show mvC d L[k] = true → (L.take (k + 1)).all (mvC d) = true from all_yes hlt HT.out.1)
    generalize L[k] = m at *
    have HG := Lib.hid (mvNF_good d m)
    have HBR := Lib.hid hbr
    clear HT hbr
    go_wp2_with (first | (go_at_call 107; refine (fields_any _ d m.len wr.heap.size 0 _ (cell_of (heap_alloc_new wr _) 2)).mono ?_; rintro e w4 ⟨fb, hfb, rfl, hf4, hb4⟩; obtain ⟨hb5, hlt5, hm5⟩ := w4_has hb4))
    have HF := Lib.hid hf4
    have HM := Lib.hid hm5
    have HB5 := Lib.hid hb5
    clear hf4 hm5 hb5 hb4 hfb hlt5
    go_loopw [33] (fun i wy => ∃ q : Nat, i = .int .i64 q ∧ q ≤ 4 ∧ Hid (((mvNF 0 m (wrap64 (d - m.len))).take q).all (fun f => inR f.v f.lo f.hi) = true ∧ Below w4.heap.size w4 wy)) (fun i _ => 4 - (intOf i).toNat)
    case atStart => exact ⟨0, rfl, by decide, Lib.hid ⟨rfl, Below.refl _ _⟩⟩
    case round =>
      obtain ⟨q, rfl, hq, HQ⟩ := hrel
      by_cases hlq : q < 4
      rotate_left
      · obtain rfl : q = 4 := by omega
        have HY := Lib.hid (HYES.out (by rw [← HG.out]; exact HQ.out.1))
        go_wp2
        go_roundw
        case rel => exact ⟨k + 1, by go_num, by omega, Lib.hid ⟨HY.out, HBR.out.trans (((HB5.out.trans (HQ.out.2.mono HB5.out.size))).mono (by have := HBR.out.size; rwa [sz_alloc] at this))⟩⟩
        case measure => simp [intOf]; omega
      have hmb := HM.out
      have hfb2 := below_heap HQ.out.2 HF.out
      have hmb2 := below_heap HQ.out.2 hmb
      have hq4 : q < (mvNF 0 m (wrap64 (d - m.len))).length := hlq
      obtain ⟨hcq, hvq⟩ : (∀ mb fb, wr.heap[fb]? = some (.cells #[numF mb 0 2 0 16383, numF mb (0 + 1) 2 0 1024, numF mb (0 + 2) 2 1 1024, numF mb (0 + 3) 2 0 (wrap64 (d - m.len))] 57 (0, 0)) → wr.cell? ⟨fb, q, none⟩ = some (numF mb (mvNF 0 m (wrap64 (d - m.len)))[q].j (mvNF 0 m (wrap64 (d - m.len)))[q].n (mvNF 0 m (wrap64 (d - m.len)))[q].lo (mvNF 0 m (wrap64 (d - m.len)))[q].hi)) ∧
          (∀ mb, wr.heap[mb]? = some (.cells #[.int .i64 m.addr, .int .i64 m.src, .int .i64 m.len, .int .i64 m.dst] 54 (0, 0)) → wr.cell? ⟨mb, (mvNF 0 m (wrap64 (d - m.len)))[q].j, none⟩ = some (.int .i64 (mvNF 0 m (wrap64 (d - m.len)))[q].v)) := by
        rcases (by omega : q = 0 ∨ q = 1 ∨ q = 2 ∨ q = 3) with rfl | rfl | rfl | rfl <;> exact ⟨fun mb fb h => cell_of h _, fun mb h => cell_of h _⟩
      have hcq := hcq _ _ hfb2
      have hvq := hvq _ hmb2
      have HNq := Lib.hid (fun e => HNO.out (by rw [← HG.out]; exact all_no (p := fun (f : NF) => inR f.v f.lo f.hi) hq4 e))
      have HYq := Lib.hid (fun e => all_yes (p := fun (f : NF) => inR f.v f.lo f.hi) hq4 HQ.out.1 e)
      have HB6 := Lib.hid HQ.out.2
      have HBout := Lib.hid (show Below w.heap.size w wr from (HB.out _).trans ((HBR.out.trans (((HB5.out.trans (HQ.out.2.mono HB5.out.size))).mono (by have := HBR.out.size; rwa [sz_alloc] at this))).mono (by omega)))
      have hlw := hmb2
      clear hmb hfb2 hmb2 hlw HQ
      generalize (mvNF 0 m (wrap64 (d - m.len)))[q] = f at *
      unfold numF at hcq
      have cg := fun (mb : Nat) (w : World) h => ngood_any mb f.j f.n f.lo f.hi f.v w h
      cases hr : inR f.v f.lo f.hi
      · rw [hr] at cg
        have HX := Lib.hid (HNq.out hr)
        clear hr
        go_wp2_with (go_at_call 109; refine (cg _ _ (by exact hvq)).mono ?_; rintro e w6 ⟨rfl, hb6⟩)
        go_ret
        rw [HX.out]
        exact ⟨rfl, HBout.out.trans (hb6.mono HBout.out.size)⟩
      · rw [hr] at cg
        have HX := Lib.hid (HYq.out hr)
        clear hr
        go_wp2_with (go_at_call 109; refine (cg _ _ (by exact hvq)).mono ?_; rintro e w6 ⟨rfl, hb6⟩)
        go_roundw
        case rel => exact ⟨q + 1, by go_num, by omega, Lib.hid ⟨HX.out, HB6.out.trans (hb6.mono HB6.out.size)⟩⟩
        case measure => simp [intOf]; omega
end Go.Proofs.Ythileemkiplodaa
namespace Go.Proofs.Ythileemkiplodaa
open Go.RowKit
set_option maxRecDepth 20000

def fieldsD (l : Nat) (o : Rec) : List Fd := headD ++ kindD l o.kind o.size o.data.size
theorem wrap_in {x : Int} (h : -9223372036854775808 ≤ x ∧ x ≤ 9223372036854775807) : wrap64 x = x := by
  unfold wrap64
  omega
theorem mvC_eq {n : Nat} (h : n ≤ 1024) (m : Mv) : mvC n m = mvGood n m := by
  unfold mvC mvGood
  cases h1 : inR m.addr 0 16383
  · rfl
  cases h2 : inR m.src 0 1024
  · rfl
  cases h3 : inR m.len 1 1024
  · rfl
  have h4 := inR_iff.1 h3
  rw [wrap_in (by omega)]
  simp only [Bool.true_and]
  apply Bool.eq_iff_iff.2
  simp only [inR_iff, Bool.and_eq_true, decide_eq_true_eq]
  omega
theorem all_mvC {n : Nat} (h : n ≤ 1024) (L : List Mv) : L.all (mvC n) = L.all (mvGood n) := by
  congr 1
  funext m
  exact mvC_eq h m
theorem clear_kind (l : Nat) (o : Rec) : ((fieldsD l o).foldl Fd.clear o).kind = o.kind := by
  have h : ∀ (L : List Fd) (o : Rec), (L.foldl Fd.clear o).kind = o.kind := by
    intro L
    induction L with
    | nil => intro o; rfl
    | cons f L ih =>
      intro o
      rw [List.foldl_cons, ih]
      cases f <;> simp only [Fd.clear, Rec.setI, Rec.setT] <;> (repeat' split) <;> rfl
  exact h _ o
theorem good_code (l : Nat) (o : Rec) (hk : 1 ≤ o.kind ∧ o.kind ≤ 14) : goodO o = ((fieldsD l o).all (Fd.good o) && ((fieldsD l o).foldl Fd.clear o).same { rec0 with kind := o.kind }) := by
  obtain ⟨c, s, k, p, q, sz, h, off, da, t, ino, mv⟩ := o
  simp only at hk
  apply Bool.eq_iff_iff.2
  rcases (by omega : k = 1 ∨ k = 2 ∨ k = 3 ∨ k = 4 ∨ k = 5 ∨ k = 6 ∨ k = 7 ∨ k = 8 ∨ k = 9 ∨ k = 10 ∨ k = 11 ∨ k = 12 ∨ k = 13 ∨ k = 14) with rfl | rfl | rfl | rfl | rfl | rfl | rfl | rfl | rfl | rfl | rfl | rfl | rfl | rfl
  · simp [goodO, onlyR, formR, fieldsD, headD, kindD, Fd.good, Fd.clear, Rec.setI, Rec.setT, Rec.int, Rec.txt, Rec.same_iff, rec0, inR_iff]
    constructor <;> intro hh <;> simp_all
  · simp [goodO, onlyR, formR, fieldsD, headD, kindD, Fd.good, Fd.clear, Rec.setI, Rec.setT, Rec.int, Rec.txt, Rec.same_iff, rec0, inR_iff]
    constructor <;> intro hh <;> simp_all
  · simp [goodO, onlyR, formR, fieldsD, headD, kindD, Fd.good, Fd.clear, Rec.setI, Rec.setT, Rec.int, Rec.txt, Rec.same_iff, rec0, inR_iff]
    constructor <;> intro hh <;> simp_all
  · simp [goodO, onlyR, formR, fieldsD, headD, kindD, Fd.good, Fd.clear, Rec.setI, Rec.setT, Rec.int, Rec.txt, Rec.same_iff, rec0, inR_iff]
    constructor <;> intro hh <;> simp_all
  · simp [goodO, onlyR, formR, fieldsD, headD, kindD, Fd.good, Fd.clear, Rec.setI, Rec.setT, Rec.int, Rec.txt, Rec.same_iff, rec0, inR_iff]
    constructor <;> intro hh <;> simp_all
  · simp [goodO, onlyR, formR, fieldsD, headD, kindD, Fd.good, Fd.clear, Rec.setI, Rec.setT, Rec.int, Rec.txt, Rec.same_iff, rec0, inR_iff]
    constructor <;> intro hh <;> simp_all
  · simp [goodO, onlyR, formR, fieldsD, headD, kindD, Fd.good, Fd.clear, Rec.setI, Rec.setT, Rec.int, Rec.txt, Rec.same_iff, rec0, inR_iff]
    constructor <;> intro hh <;> simp_all
  · simp [goodO, onlyR, formR, fieldsD, headD, kindD, Fd.good, Fd.clear, Rec.setI, Rec.setT, Rec.int, Rec.txt, Rec.same_iff, rec0, inR_iff]
    constructor <;> intro hh <;> simp_all
  · simp [goodO, onlyR, formR, fieldsD, headD, kindD, Fd.good, Fd.clear, Rec.setI, Rec.int, Rec.same_iff, rec0, inR_iff]
    constructor <;> intro hh <;> simp_all
  · simp [goodO, onlyR, formR, fieldsD, headD, kindD, Fd.good, Fd.clear, Rec.setI, Rec.setT, Rec.int, Rec.txt, Rec.same_iff, rec0, inR_iff]
    constructor <;> intro hh <;> simp_all
  · simp [goodO, onlyR, formR, fieldsD, headD, kindD, Fd.good, Fd.clear, Rec.setI, Rec.int, Rec.same_iff, rec0, inR_iff]
    constructor <;> intro hh <;> simp_all
  · simp [goodO, onlyR, formR, fieldsD, headD, kindD, Fd.good, Fd.clear, Rec.setI, Rec.int, Rec.same_iff, rec0, inR_iff]
    constructor <;> intro hh <;> simp_all
  · by_cases hz : da.size ≤ 1024
    · have e := all_mvC hz mv
      simp [goodO, onlyR, formR, fieldsD, headD, kindD, Fd.good, Fd.clear, Rec.setI, Rec.setT, Rec.int, Rec.txt, Rec.same_iff, rec0, inR_iff, e]
      constructor <;> intro hh <;> simp_all
      all_goals omega
    · simp [goodO, onlyR, formR, fieldsD, headD, kindD, Fd.good, Fd.clear, Rec.setI, Rec.setT, Rec.int, Rec.txt, Rec.same_iff, rec0, inR_iff]
      constructor <;> intro hh <;> (exfalso; omega)
  · by_cases hz : (1 ≤ sz ∧ sz ≤ 65536) ∧ da.size ≤ 1024
    · have e := wrap_in (x := sz - da.size) (by omega)
      simp [goodO, onlyR, formR, fieldsD, headD, kindD, Fd.good, Fd.clear, Rec.setI, Rec.setT, Rec.int, Rec.txt, Rec.same_iff, rec0, inR_iff, e]
      constructor <;> intro hh <;> simp_all
      all_goals omega
    · simp [goodO, onlyR, formR, fieldsD, headD, kindD, Fd.good, Fd.clear, Rec.setI, Rec.setT, Rec.int, Rec.txt, Rec.same_iff, rec0, inR_iff]
      constructor <;> intro hh <;> (exfalso; omega)
end Go.Proofs.Ythileemkiplodaa
namespace Go.Proofs.Ythileemkiplodaa
open Go.RowKit
set_option maxRecDepth 20000

def fnIn (fns : FuncId × FuncId × FuncId × FuncId) (T : TypeId) (fn : FuncId) : Prop := (T = 108 ∧ fn = fns.1) ∨ (T = 118 ∧ fn = fns.2.1) ∨ (T = 100 ∧ fn = fns.2.2.1) ∨ (T = 106 ∧ fn = fns.2.2.2)
def goodFns : FuncId × FuncId × FuncId × FuncId := (109, 113, 97, 104)
def clearFns : FuncId × FuncId × FuncId × FuncId := (108, 112, 96, 103)
def smallR (o : Rec) : Prop := o.path.size ≤ 1000000 ∧ o.dest.size ≤ 1000000 ∧ o.data.size ≤ 1000000 ∧ o.moves.length ≤ 1000000
theorem smallR.txt {o : Rec} (h : smallR o) (j : Nat) : (o.txt j).size ≤ 1099511627776 := by
  unfold Rec.txt
  obtain ⟨h1, h2, h3, _⟩ := h
  repeat' split
  all_goals omega
theorem RB.int {w : World} {b j : Nat} {o : Rec} (h : RB w b o) (hj : isI j) : w.cell? ⟨b, j, none⟩ = some (.int .i64 (o.int j)) := by
  obtain ⟨ao, cap, h1, _⟩ := h
  exact (cell_of h1 j).trans (recA_int hj o _)
theorem RB.txt {w : World} {b j : Nat} {o : Rec} (h : RB w b o) (hj : isT j) : w.cell? ⟨b, j, none⟩ = some (.string (o.txt j)) := by
  obtain ⟨ao, cap, h1, _⟩ := h
  exact (cell_of h1 j).trans (recA_txt hj o _)
/-- field f, asked in any world behind w0, tells whether it is good -/
def Asks (w0 : World) (b : Nat) (o : Rec) (f : Fd) : Prop :=
  ∃ T x fn, f.val b = .iface T (.agg x) ∧ fnIn goodFns T fn ∧ ∀ w, Below w0.heap.size w0 w → Calls Try.prog fn #[.agg x] w fun e w' => e = .returned (.bool (f.good o)) ∧ Below w.heap.size w w'
theorem asks_any {S : Nat → Prop} {w0 : World} {b g : Nat} {o : Rec} {L : List Fd} (hR : RB w0 b o) (hL : LF S w0 b g L) (hs : smallR o) {f : Fd} (hf : f ∈ L) : Asks w0 b o f := by
  have hok := hL.ok f hf
  cases f with
  | num j n lo hi => exact ⟨_, _, _, rfl, .inl ⟨rfl, rfl⟩, fun w hb => ngood_any b j n lo hi (o.int j) w ((hR.below hb).int hok.1)⟩
  | tick j n lo hi => exact ⟨_, _, _, rfl, .inr (.inl ⟨rfl, rfl⟩), fun w hb => kgood_any b j n lo hi (o.int j) w ((hR.below hb).int hok.1)⟩
  | path j => exact ⟨_, _, _, rfl, .inr (.inr (.inl ⟨rfl, rfl⟩)), fun w hb => tgood_path b j (o.txt j) w ((hR.below hb).txt hok) (hs.txt j)⟩
  | data j l x =>
    have hd := (hL.data j l x hf).1
    exact ⟨_, _, _, rfl, .inr (.inr (.inl ⟨rfl, rfl⟩)), fun w hb => tgood_data b j l (o.txt j) x w ((hR.below hb).txt hok) (cellB hb (block_lt_of_cell hd) hd)⟩
  | mvs j d =>
    obtain ⟨rfl, _⟩ := hok
    refine ⟨_, _, _, rfl, .inr (.inr (.inr ⟨rfl, rfl⟩)), fun w hb => ?_⟩
    obtain ⟨ao, cap, h1, h2, _⟩ := hR.below hb
    exact mgood_any b 11 d ao cap o.moves w (cell_of h1 11) h2 hs.2.2.2
/-- field f, cleared, leaves the record without it -/
def Clears (I : Rec → World → Prop) (b : Nat) (f : Fd) : Prop :=
  ∃ T x fn, f.val b = .iface T (.agg x) ∧ fnIn clearFns T fn ∧ ∀ o w, I o w → Calls Try.prog fn #[.agg x] w fun e w' => e = .returned (.tuple #[]) ∧ I (f.clear o) w'
theorem kept_row {S : Nat → Prop} {w w' : World} {ao : Option Addr} {cap : Nat} {L : List Mv} (h : VLI w ao cap L) (hk : Kept S w w') (hs : ∀ a, ao = some a → S a.block) : VLI w' ao cap L := ⟨h.1.keep hk hs, h.2⟩
theorem row_kept {w w' : World} {b : Nat} {ao : Option Addr} {cap : Nat} {L : List Mv} (h : VLI w ao cap L) (hk : Kept (fun k => k ≠ b) w w') (hs : ∀ a, ao = some a → L = [] ∨ a.block ≠ b) : VLI w' ao cap L := by
  by_cases e : L = []
  · subst e; exact ⟨VL.nil _ _, h.2⟩
  · exact kept_row h hk (fun a ha => (hs a ha).resolve_left e)
theorem clears_any {w0 : World} {b g : Nat} {L : List Fd} (hL : LF (fun k => k ≠ b) w0 b g L) {f : Fd} (hf : f ∈ L) : Clears (fun o w => RB w b o ∧ Kept (fun k => k ≠ b) w0 w) b f := by
  have hok := hL.ok f hf
  cases f with
  | num j n lo hi =>
    refine ⟨_, _, _, rfl, .inl ⟨rfl, rfl⟩, fun o w h => ?_⟩
    obtain ⟨⟨ao, cap, h1, h2, h3⟩, hk⟩ := h
    refine (nclear_any b j n lo hi _ _ w h1 ⟨_, recA_int hok.1 o _⟩).mono ?_
    rintro e w' ⟨rfl, h4, h5⟩
    rw [recA_setI hok.1, ← setI_moves o 0 (j := j)] at h4
    exact ⟨rfl, ⟨ao, cap, h4, by show VLI w' ao cap (o.setI j 0).moves; rw [setI_moves]; exact row_kept h2 h5 h3, by show ∀ a, ao = some a → (o.setI j 0).moves = [] ∨ a.block ≠ b; rw [setI_moves]; exact h3⟩, hk.trans h5⟩
  | tick j n lo hi =>
    refine ⟨_, _, _, rfl, .inr (.inl ⟨rfl, rfl⟩), fun o w h => ?_⟩
    obtain ⟨⟨ao, cap, h1, h2, h3⟩, hk⟩ := h
    refine (kclear_any b j n lo hi _ _ w h1 ⟨_, recA_int hok.1 o _⟩).mono ?_
    rintro e w' ⟨rfl, h4, h5⟩
    rw [recA_setI hok.1, ← setI_moves o 0 (j := j)] at h4
    exact ⟨rfl, ⟨ao, cap, h4, by show VLI w' ao cap (o.setI j 0).moves; rw [setI_moves]; exact row_kept h2 h5 h3, by show ∀ a, ao = some a → (o.setI j 0).moves = [] ∨ a.block ≠ b; rw [setI_moves]; exact h3⟩, hk.trans h5⟩
  | path j =>
    refine ⟨_, _, _, rfl, .inr (.inr (.inl ⟨rfl, rfl⟩)), fun o w h => ?_⟩
    obtain ⟨⟨ao, cap, h1, h2, h3⟩, hk⟩ := h
    refine (tclear_any b j _ _ _ w h1 ⟨_, recA_txt hok o _⟩).mono ?_
    rintro e w' ⟨rfl, h4, h5⟩
    rw [recA_setT hok, ← setT_moves o ⟨#[]⟩ (j := j)] at h4
    exact ⟨rfl, ⟨ao, cap, h4, by show VLI w' ao cap (o.setT j ⟨#[]⟩).moves; rw [setT_moves]; exact row_kept h2 h5 h3, by show ∀ a, ao = some a → (o.setT j ⟨#[]⟩).moves = [] ∨ a.block ≠ b; rw [setT_moves]; exact h3⟩, hk.trans h5⟩
  | data j l x =>
    refine ⟨_, _, _, rfl, .inr (.inr (.inl ⟨rfl, rfl⟩)), fun o w h => ?_⟩
    obtain ⟨⟨ao, cap, h1, h2, h3⟩, hk⟩ := h
    refine (tclear_any b j _ _ _ w h1 ⟨_, recA_txt hok o _⟩).mono ?_
    rintro e w' ⟨rfl, h4, h5⟩
    rw [recA_setT hok, ← setT_moves o ⟨#[]⟩ (j := j)] at h4
    exact ⟨rfl, ⟨ao, cap, h4, by show VLI w' ao cap (o.setT j ⟨#[]⟩).moves; rw [setT_moves]; exact row_kept h2 h5 h3, by show ∀ a, ao = some a → (o.setT j ⟨#[]⟩).moves = [] ∨ a.block ≠ b; rw [setT_moves]; exact h3⟩, hk.trans h5⟩
  | mvs j d =>
    obtain ⟨rfl, _⟩ := hok
    refine ⟨_, _, _, rfl, .inr (.inr (.inr ⟨rfl, rfl⟩)), fun o w h => ?_⟩
    obtain ⟨⟨ao, cap, h1, h2, h3⟩, hk⟩ := h
    refine (mclear_any b 11 d _ _ w h1 ⟨_, _, _, rfl⟩).mono ?_
    rintro e w' ⟨rfl, h4, h5⟩
    exact ⟨rfl, ⟨none, 0, h4, ⟨VL.nil _ _, fun _ => rfl⟩, fun a e => by cases e⟩, hk.trans h5⟩
end Go.Proofs.Ythileemkiplodaa
namespace Go.Proofs.Ythileemkiplodaa
open Go.RowKit
set_option maxRecDepth 20000

/-- what put wants of a field -/
def Fd.fit (o : Rec) : Fd → Prop
  | .num j _ _ _ => i64R (o.int j)
  | .tick j _ _ _ => i64R (o.int j)
  | .path _ => True
  | .data _ _ _ => True
  | .mvs _ _ => o.moves.length ≤ 1000000 ∧ o.moves ≠ [] ∧ ∀ m, m ∈ o.moves → i64R m.addr ∧ i64R m.src ∧ i64R m.len ∧ i64R m.dst
theorem inR_i64 {v lo hi : Int} (h : inR v lo hi = true) (h1 : -9223372036854775808 ≤ lo) (h2 : hi ≤ 9223372036854775807) : i64R v := by
  have := inR_iff.1 h
  unfold i64R
  omega
theorem wrap_le (x : Int) : wrap64 x ≤ 9223372036854775807 := by unfold wrap64; omega
theorem mvC_i64 {d : Int} {m : Mv} (h : mvC d m = true) : i64R m.addr ∧ i64R m.src ∧ i64R m.len ∧ i64R m.dst := by
  unfold mvC at h
  simp only [Bool.and_eq_true] at h
  exact ⟨inR_i64 h.1 (by decide) (by decide), inR_i64 h.2.1 (by decide) (by decide), inR_i64 h.2.2.1 (by decide) (by decide), inR_i64 h.2.2.2 (by decide) (wrap_le _)⟩
theorem mvs_fit {o : Rec} {d : Int} (h : (inR o.moves.length 1 16 && o.moves.all (mvC d)) = true) : Fd.fit o (.mvs 11 d) := by
  rw [Bool.and_eq_true] at h
  have h1 := inR_iff.1 h.1
  refine ⟨by omega, fun e => by rw [e] at h1; simp at h1, fun m hm => mvC_i64 (List.all_eq_true.1 h.2 m hm)⟩
theorem fit_any (l : Nat) (o : Rec) : ∀ f, f ∈ fieldsD l o → f.good o = true → f.fit o := by
  intro f hf hg
  unfold fieldsD headD kindD at hf
  repeat' split at hf
  all_goals simp only [List.cons_append, List.nil_append, List.mem_cons, List.not_mem_nil, or_false] at hf
  all_goals first
    | (rcases hf with rfl | rfl | rfl | rfl | rfl <;> first | exact inR_i64 hg (by decide) (by decide) | exact trivial | exact inR_i64 hg (by decide) (wrap_le _) | exact mvs_fit hg)
    | (rcases hf with rfl | rfl | rfl | rfl <;> first | exact inR_i64 hg (by decide) (by decide) | exact trivial)
    | (rcases hf with rfl | rfl | rfl <;> first | exact inR_i64 hg (by decide) (by decide) | exact trivial)
    | (rcases hf with rfl | rfl <;> first | exact inR_i64 hg (by decide) (by decide) | exact trivial)
theorem put_code (l : Nat) (o : Rec) (hk : 1 ≤ o.kind ∧ o.kind ≤ 14) : (fieldsD l o).foldl (Fd.put o) (stE.num o.kind 1) = encSt o := by
  obtain ⟨c, s, k, p, q, sz, h, off, da, t, ino, mv⟩ := o
  simp only at hk
  rcases (by omega : k = 1 ∨ k = 2 ∨ k = 3 ∨ k = 4 ∨ k = 5 ∨ k = 6 ∨ k = 7 ∨ k = 8 ∨ k = 9 ∨ k = 10 ∨ k = 11 ∨ k = 12 ∨ k = 13 ∨ k = 14) with rfl | rfl | rfl | rfl | rfl | rfl | rfl | rfl | rfl | rfl | rfl | rfl | rfl | rfl <;> rfl
theorem enc_code {o : Rec} (h : goodO o = true) : (encSt o).code = 0 := by
  obtain ⟨h1, h2, _⟩ := fine_any h
  have h3 := headB_size h
  rw [h1]
  unfold St.code
  rw [if_neg (by simp), if_neg (by show ¬ 65536 < (headB o ++ bodyB o).size; rw [ByteArray.size_append]; omega)]
end Go.Proofs.Ythileemkiplodaa
namespace Go.Proofs.Ythileemkiplodaa
open Go.RowKit
set_option maxRecDepth 20000

theorem numO_none (n : Int) : numO none n = none := by
  unfold numO
  split
  · next h => have := hasN_some (o := none) h; cases this
  · rfl
theorem textO_none (m : Int) : textO none m = none := by
  unfold textO
  rw [if_neg]
  rintro ⟨h, _⟩
  rw [numO_none] at h
  cases h
theorem text_cases (u : Option ByteArray) : (textV u 4096 = textV u 65535 ∧ textO u 4096 = textO u 65535) ∨ (textO u 4096 = none ∧ (textO u 65535 = none ∨ 4096 < (textV u 65535).size)) := by
  by_cases h : hasT u 4096
  · have h' : hasT u 65535 := ⟨h.1, by have := h.2.1; omega, h.2.2⟩
    left
    unfold textV textO
    rw [if_pos h, if_pos h', if_pos h, if_pos h']
    exact ⟨rfl, rfl⟩
  · right
    refine ⟨if_neg h, ?_⟩
    by_cases h' : hasT u 65535
    · right
      unfold textV
      rw [if_pos h', ByteArray.size_extract]
      have h1 := h'.2.1
      have h2 := h'.2.2
      have h3 : 4096 < numV u 2 := by
        apply Int.not_le.1
        intro hle
        exact h ⟨h'.1, hle, h'.2.2⟩
      omega
    · exact .inl (if_neg h')
theorem good_small {o : Rec} (h : goodO o = true) : o.path.size ≤ 4096 ∧ o.dest.size ≤ 4096 ∧ o.data.size ≤ 4096 := by
  obtain ⟨_, _, _, ho, hf⟩ := good_parts h
  have e0 : (⟨#[]⟩ : ByteArray).size = 0 := rfl
  clear h
  unfold onlyR at ho
  unfold formR at hf
  split at hf
  · next k =>
    rw [if_pos k] at ho
    have := good_size hf
    rw [ho]
    exact ⟨by show o.path.size ≤ 4096; omega, Nat.zero_le _, Nat.zero_le _⟩
  · next k1 =>
    rw [if_neg k1] at ho
    split at hf
    · next k =>
      rw [if_pos k] at ho
      rw [Bool.and_eq_true] at hf
      have := good_size hf.1
      have := good_size hf.2
      rw [ho]
      exact ⟨by show o.path.size ≤ 4096; omega, by show o.dest.size ≤ 4096; omega, Nat.zero_le _⟩
    · next k2 =>
      rw [if_neg k2] at ho
      split at hf
      · next k =>
        rw [if_pos k] at ho
        rw [Bool.and_eq_true] at hf
        have := good_size hf.1
        rw [ho]
        exact ⟨by show o.path.size ≤ 4096; omega, Nat.zero_le _, Nat.zero_le _⟩
      · next k3 =>
        rw [if_neg k3] at ho
        split at hf
        · next k => rw [if_pos k] at ho; rw [ho]; exact ⟨Nat.zero_le _, Nat.zero_le _, Nat.zero_le _⟩
        · next k4 =>
          rw [if_neg k4] at ho
          split at hf
          · next k =>
            rw [if_pos k] at ho
            simp only [Bool.and_eq_true, inR_iff] at hf
            rw [ho]
            exact ⟨Nat.zero_le _, Nat.zero_le _, by show o.data.size ≤ 4096; omega⟩
          · next k5 =>
            rw [if_neg k5] at ho
            split at hf
            · next k => rw [if_pos k] at ho; rw [ho]; exact ⟨Nat.zero_le _, Nat.zero_le _, Nat.zero_le _⟩
            · next k6 =>
              rw [if_neg k6] at ho
              split at hf
              · next k =>
                rw [if_pos k] at ho
                simp only [Bool.and_eq_true, inR_iff, decide_eq_true_eq] at hf
                rw [ho]
                exact ⟨Nat.zero_le _, Nat.zero_le _, by show o.data.size ≤ 4096; omega⟩
              · next k7 =>
                rw [if_neg k7] at ho
                split at hf
                · next k =>
                  rw [if_pos k] at ho
                  simp only [Bool.and_eq_true, inR_iff] at hf
                  rw [ho]
                  exact ⟨Nat.zero_le _, Nat.zero_le _, by show o.data.size ≤ 4096; omega⟩
                · cases hf
theorem big_no {o : Rec} (h : 4096 < o.path.size ∨ 4096 < o.dest.size ∨ 4096 < o.data.size) : goodO o = false := by
  apply Bool.eq_false_iff.2
  intro hg
  have := good_small hg
  omega
theorem none_no : ukE none ≠ 0 := by decide
/-- what the code takes -/
def takeD (l : Nat) (s : ByteArray) : Rec × Option ByteArray := (fieldsD l { rec0 with kind := numV (some s) 1 }).foldl Fd.take ({ rec0 with kind := numV (some s) 1 }, numO (some s) 1)
set_option maxHeartbeats 1000000 in
theorem take_code (l : Nat) (s : ByteArray) (hk : 1 ≤ numV (some s) 1 ∧ numV (some s) 1 ≤ 14) : endR (takeD l s) = decR s := by
  unfold takeD decR decHead
  generalize numV (some s) 1 = k at *
  generalize numO (some s) 1 = u1
  rcases (by omega : k = 1 ∨ k = 2 ∨ k = 3 ∨ k = 4 ∨ k = 5 ∨ k = 6 ∨ k = 7 ∨ k = 8 ∨ k = 9 ∨ k = 10 ∨ k = 11 ∨ k = 12 ∨ k = 13 ∨ k = 14) with rfl | rfl | rfl | rfl | rfl | rfl | rfl | rfl | rfl | rfl | rfl | rfl | rfl | rfl
  · simp [fieldsD, headD, kindD, Fd.take, Rec.setI, Rec.setT, decBody, rec0]
    generalize numO (numO u1 1) 4 = u3
    rcases text_cases u3 with ⟨e1, e2⟩ | ⟨e1, e2⟩
    · simp only [e1, e2]
    · rw [endR_no (.inl (by simp only [e1]; exact none_no))]
      refine (endR_no ?_).symm
      rcases e2 with e2 | e2
      · exact .inl (by simp only [e2]; exact none_no)
      · exact .inr (big_no (.inl e2))
  · simp [fieldsD, headD, kindD, Fd.take, Rec.setI, Rec.setT, decBody, rec0]
    generalize numO (numO u1 1) 4 = u3
    rcases text_cases u3 with ⟨e1, e2⟩ | ⟨e1, e2⟩
    · simp only [e1, e2]
    · rw [endR_no (.inl (by simp only [e1]; exact none_no))]
      refine (endR_no ?_).symm
      rcases e2 with e2 | e2
      · exact .inl (by simp only [e2]; exact none_no)
      · exact .inr (big_no (.inl e2))
  · simp [fieldsD, headD, kindD, Fd.take, Rec.setI, Rec.setT, decBody, rec0]
    generalize numO (numO u1 1) 4 = u3
    rcases text_cases u3 with ⟨e1, e2⟩ | ⟨e1, e2⟩
    · simp only [e1, e2]
    · rw [endR_no (.inl (by simp only [e1]; exact none_no))]
      refine (endR_no ?_).symm
      rcases e2 with e2 | e2
      · exact .inl (by simp only [e2]; exact none_no)
      · exact .inr (big_no (.inl e2))
  · simp [fieldsD, headD, kindD, Fd.take, Rec.setI, Rec.setT, decBody, rec0]
    generalize numO (numO u1 1) 4 = u3
    rcases text_cases u3 with ⟨e1, e2⟩ | ⟨e1, e2⟩
    · simp only [e1, e2]
      rcases text_cases (textO u3 65535) with ⟨e1, e2⟩ | ⟨e1, e2⟩
      · simp only [e1, e2]
      · rw [endR_no (.inl (by simp only [e1]; exact none_no))]
        refine (endR_no ?_).symm
        rcases e2 with e2 | e2
        · exact .inl (by simp only [e2]; exact none_no)
        · exact .inr (big_no (.inr (.inl e2)))
    · rw [endR_no (.inl (by simp only [e1, textO_none]; exact none_no))]
      refine (endR_no ?_).symm
      rcases e2 with e2 | e2
      · exact .inl (by simp only [e2, textO_none]; exact none_no)
      · exact .inr (big_no (.inl e2))
  · simp [fieldsD, headD, kindD, Fd.take, Rec.setI, Rec.setT, decBody, rec0]
    generalize numO (numO u1 1) 4 = u3
    rcases text_cases u3 with ⟨e1, e2⟩ | ⟨e1, e2⟩
    · simp only [e1, e2]
    · rw [endR_no (.inl (by simp only [e1]; exact none_no))]
      refine (endR_no ?_).symm
      rcases e2 with e2 | e2
      · exact .inl (by simp only [e2]; exact none_no)
      · exact .inr (big_no (.inl e2))
  · simp [fieldsD, headD, kindD, Fd.take, Rec.setI, Rec.setT, decBody, rec0]
    generalize numO (numO u1 1) 4 = u3
    rcases text_cases u3 with ⟨e1, e2⟩ | ⟨e1, e2⟩
    · simp only [e1, e2]
      rcases text_cases (textO u3 65535) with ⟨e1, e2⟩ | ⟨e1, e2⟩
      · simp only [e1, e2]
      · rw [endR_no (.inl (by simp only [e1]; exact none_no))]
        refine (endR_no ?_).symm
        rcases e2 with e2 | e2
        · exact .inl (by simp only [e2]; exact none_no)
        · exact .inr (big_no (.inr (.inl e2)))
    · rw [endR_no (.inl (by simp only [e1, textO_none]; exact none_no))]
      refine (endR_no ?_).symm
      rcases e2 with e2 | e2
      · exact .inl (by simp only [e2, textO_none]; exact none_no)
      · exact .inr (big_no (.inl e2))
  · simp [fieldsD, headD, kindD, Fd.take, Rec.setI, Rec.setT, decBody, rec0]
    generalize numO (numO u1 1) 4 = u3
    rcases text_cases u3 with ⟨e1, e2⟩ | ⟨e1, e2⟩
    · simp only [e1, e2]
    · rw [endR_no (.inl (by simp only [e1, numO_none]; exact none_no))]
      refine (endR_no ?_).symm
      rcases e2 with e2 | e2
      · exact .inl (by simp only [e2, numO_none]; exact none_no)
      · exact .inr (big_no (.inl e2))
  · simp [fieldsD, headD, kindD, Fd.take, Rec.setI, Rec.setT, decBody, rec0]
    generalize numO (numO u1 1) 4 = u3
    rcases text_cases u3 with ⟨e1, e2⟩ | ⟨e1, e2⟩
    · simp only [e1, e2]
    · rw [endR_no (.inl (by simp only [e1]; exact none_no))]
      refine (endR_no ?_).symm
      rcases e2 with e2 | e2
      · exact .inl (by simp only [e2]; exact none_no)
      · exact .inr (big_no (.inl e2))
  · simp [fieldsD, headD, kindD, Fd.take, Rec.setI, decBody, rec0]
  · simp [fieldsD, headD, kindD, Fd.take, Rec.setI, Rec.setT, decBody, rec0]
    generalize numO (numO u1 1) 4 = u3
    generalize numO (numO u3 4) 4 = u5
    rcases text_cases u5 with ⟨e1, e2⟩ | ⟨e1, e2⟩
    · simp only [e1, e2]
    · rw [endR_no (.inl (by simp only [e1]; exact none_no))]
      refine (endR_no ?_).symm
      rcases e2 with e2 | e2
      · exact .inl (by simp only [e2]; exact none_no)
      · exact .inr (big_no (.inr (.inr e2)))
  · simp [fieldsD, headD, kindD, Fd.take, Rec.setI, decBody, rec0]
  · simp [fieldsD, headD, kindD, Fd.take, Rec.setI, decBody, rec0]
  · simp [fieldsD, headD, kindD, Fd.take, Rec.setI, Rec.setT, decBody, rec0]
    generalize numO (numO u1 1) 4 = u3
    generalize decMoves (numV (numO u3 4) 1).toNat [] (numO (numO u3 4) 1) = D
    rcases text_cases D.2 with ⟨e1, e2⟩ | ⟨e1, e2⟩
    · simp only [e1, e2]
    · rw [endR_no (.inl (by simp only [e1]; exact none_no))]
      refine (endR_no ?_).symm
      rcases e2 with e2 | e2
      · exact .inl (by simp only [e2]; exact none_no)
      · exact .inr (big_no (.inr (.inr e2)))
  · simp [fieldsD, headD, kindD, Fd.take, Rec.setI, Rec.setT, decBody, rec0]
    generalize numO (numO u1 1) 4 = u3
    rcases text_cases u3 with ⟨e1, e2⟩ | ⟨e1, e2⟩
    · simp only [e1, e2]
    · rw [endR_no (.inl (by simp only [e1, numO_none]; exact none_no))]
      refine (endR_no ?_).symm
      rcases e2 with e2 | e2
      · exact .inl (by simp only [e2, numO_none]; exact none_no)
      · exact .inr (big_no (.inr (.inr e2)))
end Go.Proofs.Ythileemkiplodaa
