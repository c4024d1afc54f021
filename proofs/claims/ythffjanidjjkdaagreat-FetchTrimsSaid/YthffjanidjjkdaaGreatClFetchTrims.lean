/- The law FetchTrims: what is trimmed is told so; a fetch that fills nothing changes nothing where nothing is. Conditions: none. (Written by gen/genfetchtrims.py.) -/
import Derived.Test.YthffjanidjjkdaaGreatG31a
import Derived.Test.YthffjanidjjkdaaGreatG35a
import Derived.Test.YthffjanidjjkdaaGreatG06a
import Derived.Test.YthffjanidjjkdaaGreatG16a
import Derived.Test.YthffjanidjjkdaaGreatG12b
import Derived.Deep.RegionHeld3
namespace Go.Proofs.YthffjanidjjkdaaGreat
open Go.ChangeShapes Go.WideShapes Go.ChangeAt Go.RowKit
open Go.ChangeMaps (open_string shut_string)
set_option linter.unusedVariables false
set_option maxRecDepth 20000
theorem th_used3 (room : Int) : (newN 0 thL room).l.used.length ≤ 100000 := by
  show (newL 0 thL).used.length ≤ 100000
  decide +kernel
theorem two_keepF3 {W W' : World} {p q o o2 : Nat} {u v : Value} (h : W.cell? ⟨p, o, none⟩ = some u ∧ W.cell? ⟨q, o2, none⟩ = some v) (hb : Below W.heap.size W W') : W'.cell? ⟨p, o, none⟩ = some u ∧ W'.cell? ⟨q, o2, none⟩ = some v := ⟨cellB hb (block_lt_of_cell h.1) h.1, cellB hb (block_lt_of_cell h.2) h.2⟩
theorem text_short3 {n : Nd} (h : FtN n) {a : Int} {j : Nat} (hj : j < lenF a) : (FX n a j).size ≤ 4096 := by
  unfold FX Ps.text
  cases e : findP (n.u (unF a j)).p.l (a / 3) with
  | some x => exact ((h.u _ (by have := unF_low hj; omega)).ok.each x (findP_some e).1).2.2
  | none => show (⟨#[]⟩ : ByteArray).size ≤ 4096; decide
theorem cg_none3 {F : Nat → Prop} {W : World} {ao : Option Addr} {n cap : Nat} {L : List (List Int)} (h : CG F W (.slice ao n cap) L) : ao = none → cap = 0 := by
  obtain ⟨a2, c2, hv, h2, _⟩ := h
  obtain ⟨rfl, _, rfl⟩ := Value.slice.inj hv
  exact h2
/-- a number of a row of the call's own -/
theorem row_at3 {W : World} {B : Nat} {co : Option Addr} {cc : Nat} {C : List Int} (h : OI W B (.slice co C.length cc) C) {j : Nat} (hj : j < C.length) : ∃ bk off, co = some ⟨bk, off, none⟩ ∧ W.cell? ⟨bk, off + j, none⟩ = some (.int .i64 C[j]) := by
  obtain ⟨a2, c2, hv, hN, _⟩ := h.form
  obtain ⟨rfl, _, rfl⟩ := Value.slice.inj hv
  exact (hN.1 j hj).1
theorem unit_at3 {C : List Int} {m : Int} {j : Nat} (hC : C.length = lenF m) (hU : ∀ j, j < lenF m → C.getD j 0 = (unF m j : Int)) (hj : j < C.length) : C[j] = (unF m j : Int) := by
  have h := hU j (by omega)
  rw [List.getD_eq_getElem?_getD, List.getElem?_eq_getElem hj] at h
  exact h
theorem one_keepF {W W' : World} {p o : Nat} {u : Value} (h : W.cell? ⟨p, o, none⟩ = some u) (hb : Below W.heap.size W W') : W'.cell? ⟨p, o, none⟩ = some u := cellB hb (block_lt_of_cell h) h
theorem fread_nil3 {UG : Nat → Nat → (Nat → Prop) → World → Us → Prop} {OG : Nat → (Nat → Prop) → World → Od → Prop} {LG : Nat → (Nat → Prop) → World → Ly → Prop} {NG : Nat → (Nat → Prop) → World → Nd → Prop} {HG : Nat → Nat → (Nat → Prop) → World → Hd → Prop} {FG : Nat → (Nat → Prop) → World → Fe → Prop} (HS : HandSays UG OG LG NG HG) (FS : FetchSays FG)
    (b nb : Nat) (X : Nat → Prop) (w : World) (h0 : Hd) (hs : Solo (HG b nb) X w h0) (n0 : Nd) (V : Int) (S : ByteArray) (a : Int) (fill : Bool) (hN : FNod n0 V S a fill h0.n) (ha : 0 ≤ a ∧ a < 42) (hV : V = 1 → S.size ≤ 4096) (hu : n0.l.used.length ≤ 100000) (ao : Option Addr) (hC : CL w ao thL) (hn : ao = none → (3 : Nat) = 0) :
    Calls Tryz.prog 19 #[.pointer (some ⟨b, 0, none⟩), .agg #[.int .i64 0, .slice ao 3 3], .int .i64 a, .bool fill, .slice none 0 0] w fun e w' => ∃ h' : Hd, e = .returned (.tuple #[.int .i64 V, .string (foundS V S), .int .i64 0, .bool true]) ∧ Solo (HG b nb) X w' h' ∧ Kept X w w' ∧ FNod n0 V S a fill h'.n ∧ ∀ j, j < lenF a → FK h'.n a j = V :=
  fread_any HS FS b nb X w h0 hs n0 V S a fill hN ha hV hu ao 3 hC hn (Nat.le_refl _) none 0 [] (Nat.zero_le _) (fun W _ => Row.nil _ _ _ _) (fun x hx => by cases hx)
/-- how many pages the first k units have -/
def usedT (n : Nd) (m : Int) : Nat → Nat
  | 0 => 0
  | k + 1 => usedT n m k + (n.u (unF m k)).p.l.length
theorem used_next {n : Nd} {m : Int} {j : Nat} (h : FtN n) (hj : j < lenF m) : ((n.u (unF m j)).p.l.length : Int) = ((usedT n m (j + 1) : Nat) : Int) - (usedT n m j : Nat) ∧ usedT n m (j + 1) ≤ 42 := by
  have hl := lenF_pos m
  have hu : ∀ i, i < lenF m → (n.u (unF m i)).p.l.length ≤ 14 := fun i hi => (h.u _ (by have := unF_low hi; omega)).len
  refine ⟨by show _ = ((usedT n m j + (n.u (unF m j)).p.l.length : Nat) : Int) - _; omega, ?_⟩
  have g : ∀ k, k ≤ lenF m → usedT n m k ≤ 14 * k := by
    intro k
    induction k with
    | zero => intro _; exact Nat.le_refl 0
    | succ k ih =>
      intro hk
      have h1 := ih (by omega)
      have h2 := hu k (by omega)
      show usedT n m k + _ ≤ _
      omega
  have := g (j + 1) (by omega)
  omega
theorem used_up {n : Nd} {m : Int} (h : FtN n) : ∀ k j, j + k ≤ lenF m → usedT n m j ≤ usedT n m (j + k) ∧ usedT n m (j + k) ≤ 42 := by
  intro k
  induction k with
  | zero =>
    intro j hj
    refine ⟨Nat.le_refl _, ?_⟩
    cases j with
    | zero => exact Nat.zero_le _
    | succ j => exact (used_next (m := m) h (j := j) (by omega)).2
  | succ k ih =>
    intro j hj
    have h1 := (ih j (by omega)).1
    have h2 := (used_next (m := m) h (j := j + k) (by omega)).2
    refine ⟨?_, h2⟩
    show _ ≤ usedT n m (j + k) + _
    omega
set_option maxHeartbeats 32000000 in
theorem fetchTrims_walk {UG : Nat → Nat → (Nat → Prop) → World → Us → Prop} {OG : Nat → (Nat → Prop) → World → Od → Prop} {LG : Nat → (Nat → Prop) → World → Ly → Prop} {NG : Nat → (Nat → Prop) → World → Nd → Prop} {HG : Nat → Nat → (Nat → Prop) → World → Hd → Prop} {FG : Nat → (Nat → Prop) → World → Fe → Prop} (HS : HandSays UG OG LG NG HG) (FS : FetchSays FG) (LS : LooksSays UG) (po : Option Addr) (pc : Nat) (l : List Pt) (addr : Int) (x : Int) (hl : l.length ≤ maxLen) (wa : (Lit.int .i64 addr).wf = true) (wx : (Lit.int .u8 x).wf = true) (w : World) (hR : Row w po 4 putC l) (hKP : ∀ p ∈ l, PtIn w p) :
    Calls Tryz.prog 5 #[.slice po l.length pc, .int .i64 addr, .int .u8 x] w fun e w' => e = .returned (.bool true) ∧ Below w.heap.size w w' := by
  have hK : ∀ p ∈ l, p.s.size ≤ maxLen := fun p hp => (hKP p hp).2.2
  clear wa
  obtain ⟨x0, x1⟩ : 0 ≤ x ∧ x < 256 := by
    have h := wx
    simp [Lit.wf] at h
    have e1 : IntKind.u8.min = 0 := by decide
    have e2 : IntKind.u8.max = 255 := by decide
    omega
  clear wx
  obtain ⟨z, rfl⟩ : ∃ z : Nat, x = z := ⟨x.toNat, by omega⟩
  obtain ⟨t, ht, ht15⟩ : ∃ t : Nat, ((z : Int).tmod 15) = (t : Int) ∧ t < 15 := ⟨z % 15, by rw [Int.tmod_eq_emod_of_nonneg (by omega)]; omega, Nat.mod_lt _ (by decide)⟩
  have CW := Lib.hid (fun w => wakes16_any HS FS LS w)
  have CT := Lib.hid three16_any
  have TT := Lib.hid (fun b nb => HS.thing b nb)
  have ZZ := Lib.hid (fun (x : Int) (h : 0 ≤ x ∧ x ≤ 300) => show i64w x from WalkArith.wf_i64 (by omega))
  have CM := Lib.hid (fun ao W (hC : CL W ao thL) => made16_two HS ao thL 3 rfl 200 W hC few_th thL_good (by decide))
  have CF := Lib.hid (fun W (hb : Below w.heap.size w W) => fair16_any po pc l hl W (hR.below hb) hK)
  have HFP := Lib.hid (show fairP l = true → ∀ p ∈ l, p.s.size ≤ 1000 from fun h p hp => of_decide_eq_true (List.all_eq_true.1 h p hp))
  have HR := Lib.hid (fun W (hb : Below w.heap.size w W) => hR.below hb)
  have HL := Lib.hid hl
  clear hR hK hKP hl
  by_cases hf : fairP l = true
  · rw [hf] at CF
    have HS1 := Lib.hid (HFP.out hf)
    clear hf HFP
    have CMD := Lib.hid (fun w => mod_any addr 40 (by decide) (by decide) w)
    have hm0 := Int.emod_nonneg addr (show (40 : Int) ≠ 0 by decide)
    have hm1 := Int.emod_lt_of_pos addr (show (0 : Int) < 40 by decide)
    generalize addr % 40 = m at *
    have COF := Lib.hid (fun ao cap W (hb : CL W ao thL) => refOf_any 0 ao cap thL m W hb ⟨by decide, by decide⟩)
    have CHA := Lib.hid (fun ao cap W (hb : CL W ao thL) => refChainO_any 0 ao cap thL m W hb ⟨by decide, by decide⟩)
    rw [show gotV 0 thL m = .agg #[.int .i64 (ofC 0 thL m), .int .i64 (m / 3), .bool true] from by unfold gotV; rw [(thL_of (by omega)).1, ofB_iff.2 ⟨thL_good, by omega⟩]] at COF
    have CLN := Lib.hid (thL_len (x := m) (by omega))
    have CUN := Lib.hid (fun j (hj : j < lenF m) => thL_unit (x := m) (by omega) hj)
    generalize ofC 0 thL m = oc at *
    generalize chainR 0 thL m = C at *
    go_enter Tryz.func5, Tryz.ntmps5
    go_wp2_with (first
      | (go_at_call 14; refine (COF.out _ _ _ C7.out).mono ?_; rintro e w8 ⟨rfl, hb⟩; have V8 := Lib.hid (V7.out.trans (hb.mono V7.out.size)); have N8 := Lib.hid (N7.out.trans (hb.mono N7.out.size)); clear hb)
      | (go_at_call 8; refine (CT.out w6).mono ?_; rintro e w7 ⟨ao7, rfl, hc, hb⟩; have C7 := Lib.hid (cg_cl hc); have V7 := Lib.hid (V6.out.trans (hb.mono V6.out.size)); have N7 := Lib.hid (show Below w6.heap.size w6 w7 from hb); clear hc hb)
      | (go_at_call 13; refine (CHA.out _ _ _ C5.out).mono ?_; rintro e w6 ⟨co, cc, rfl, hO, hb⟩; have O6 := Lib.hid hO; have V6 := Lib.hid (V5.out.trans (hb.mono V5.out.size)); have hs5 := V5.out.size; clear hO hb)
      | (go_at_call 8; refine (CT.out w4).mono ?_; rintro e w5 ⟨ao5, rfl, hc, hb⟩; have C5 := Lib.hid (cg_cl hc); have V5 := Lib.hid hb; clear hc hb)
      | (go_at_call 12; refine (CMD.out _).mono ?_; rintro e wm ⟨rfl, rfl⟩)
      | (go_at_call 11; refine (lay_any HS b nb _ w3 _ S3.out (lay_new (by decide)) (th_used3 200) ao3 3 (fun W hk => cg_cl (C3.out.keep hk (fun k h => .inr h))) po pc l HL.out (fun W hk => HR.out W (B3.out.trans (hk.toBelow B3.out.size (fun j h => .inl (Nat.lt_of_lt_of_le h B1.out.size))))) HS1.out).mono ?_; rintro e w4 ⟨rfl, h1, hs4, hk4, hn4, hm4⟩; have S4 := Lib.hid hs4; have LN := Lib.hid hn4; have MN := Lib.hid hm4; have B4 := Lib.hid (B3.out.trans (hk4.toBelow B3.out.size (fun j h => .inl (Nat.lt_of_lt_of_le h B1.out.size)))); clear hs4 hk4 hn4 hm4)
      | (go_at_call 8; refine (CT.out w2).mono ?_; rintro e w3 ⟨ao3, rfl, hc, hb⟩; have C3 := Lib.hid hc; have S3 := Lib.hid (S2.out.wider (TT.out b nb) hb); have B3 := Lib.hid (B2.out.trans (hb.mono B2.out.size)); clear hc hb)
      | (go_at_call 9; refine (CF.out _ B2.out).mono ?_; rintro e wf ⟨rfl, rfl⟩)
      | (go_at_call 7; refine (CM.out _ _ C1.out).mono ?_; rintro e w2 ⟨b, nb, p, rfl, hs2, hb2⟩; have S2 := Lib.hid hs2; have B2 := Lib.hid (B1.out.trans (hb2.mono B1.out.size)); clear hs2 hb2)
      | (go_at_call 8; refine (CT.out w).mono ?_; rintro e w1 ⟨ao1, rfl, hc, hb⟩; have C1 := Lib.hid (cg_cl hc); have B1 := Lib.hid hb; clear hc hb))
    have HG9 := Lib.hid (heap_alloc_new w8 (.cells #[.int .i64 oc, .int .i64 (m / 3), .bool true] 41))
    have V9 := Lib.hid (V8.out.trans ((below_new w8 (.cells #[.int .i64 oc, .int .i64 (m / 3), .bool true] 41)).mono V8.out.size))
    have O9 := Lib.hid (O6.out.keep (Kept.ofBelow (N8.out.trans ((below_new w8 (.cells #[.int .i64 oc, .int .i64 (m / 3), .bool true] 41)).mono N8.out.size)) (fun _ => True)) (fun _ _ _ => trivial))
    have hg9 : w4.heap.size ≤ w8.heap.size ∧ w8.heap.size < (w8.alloc (.cells #[.int .i64 oc, .int .i64 (m / 3), .bool true] 41)).heap.size := ⟨V8.out.size, by simp⟩
    generalize hgg : w8.heap.size = g at *
    generalize w8.alloc (.cells #[.int .i64 oc, .int .i64 (m / 3), .bool true] 41) = w9 at *
    have S9 := Lib.hid (S4.out.wider (TT.out b nb) V9.out)
    have B9 := Lib.hid (B4.out.trans (V9.out.mono B4.out.size))
    have HU1 := Lib.hid (show h1.n.l.used.length ≤ 100000 from by rw [MN.out.l]; exact th_used3 200)
    have HC1 := lenF_pos m
    have hC0 : 0 < C.length := by rw [CLN.out]; omega
    have c0 : (0 : Int) < (C.length : Int) := by omega
    have hC3 : (C.length : Int) ≤ 3 := by rw [CLN.out]; omega
    obtain ⟨ck, coff, hco, _⟩ := row_at3 O9.out hC0
    subst hco
    have MM := Lib.hid (show 0 ≤ m ∧ m < 42 from ⟨by omega, by omega⟩)
    have HT15 := Lib.hid (show 0 ≤ (t : Int) ∧ (t : Int) < 15 from ⟨by omega, by omega⟩)
    have ZT := Lib.hid (ZZ.out (t : Int) (by omega))
    have HZ := Lib.hid (ZZ.out (m / 3) (by omega))
    obtain ⟨X9, hs9, hXa, hXb⟩ : ∃ X9, Solo (HG b nb) X9 w9 h1 ∧ (∀ k, k < w.heap.size → X9 k) ∧ (∀ k, w4.heap.size ≤ k → k < w9.heap.size → X9 k) := ⟨_, S9.out, fun k h => .inl (.inl (Nat.lt_of_lt_of_le h B1.out.size)), fun k h1 h2 => .inr ⟨h1, h2⟩⟩
    have SX := Lib.hid hs9
    have HXA := Lib.hid hXa
    have HXB := Lib.hid (fun k (h1 : w6.heap.size ≤ k ∨ w5.heap.size ≤ k ∨ w4.heap.size ≤ k) (h2 : k < w9.heap.size) => hXb k (by have := V5.out.size; have := V6.out.size; omega) h2)
    clear hs9 hXa hXb S9 HC1 ht15
    go_wp2_with fail
    go_loopw [14] (fun i wr => ∃ (j : Nat) (h2 : Hd), i = .int .i64 j ∧ j ≤ C.length ∧ Hid (TrimN h1.n m (t : Int) j h2.n) ∧ Hid (Solo (HG b nb) X9 wr h2) ∧ Hid (Kept X9 w9 wr)) (fun i _ => C.length - (intOf i).toNat)
    case atStart => exact ⟨0, h1, rfl, Nat.zero_le _, Lib.hid (TrimN.start LN.out m (t : Int)), SX, Lib.hid (Kept.refl _ _)⟩
    case round =>
      clear SX
      obtain ⟨j, h2, rfl, hj, HN, HT, HKJ⟩ := hrel
      have OJ := Lib.hid (O9.out.keep HKJ.out (fun k h1 h2 => HXB.out k (by omega) h2))
      have GJ := Lib.hid (HKJ.out.heap (HXB.out g (by omega) (by omega)) HG9.out)
      have BJ := Lib.hid (B9.out.trans (HKJ.out.toBelow B9.out.size (fun j h => HXA.out j h)))
      have HUJ2 := Lib.hid (show h2.n.l.used.length ≤ 100000 from by rw [HN.out.l]; exact HU1.out)
      by_cases hjl : j < C.length
      · have n3 : (j : Int) < (C.length : Int) := by omega
        obtain ⟨ck2, coff2, hco2, hcell⟩ := row_at3 OJ.out hjl
        obtain ⟨rfl, rfl⟩ : ck2 = ck ∧ coff2 = coff := by simpa using hco2.symm
        rw [unit_at3 CLN.out CUN.out hjl] at hcell
        have hjf : j < lenF m := by rw [← CLN.out]; exact hjl
        have hun := unF_low hjf
        have ZU := Lib.hid (ZZ.out (unF m j : Int) (by omega))
        have HN2 := Lib.hid (HN.out.next HT15.out MM.out hjf (q := akN 4 (unF m j : Int) 0 (t : Int) ⟨#[]⟩) ⟨rfl, rfl, rfl, rfl⟩)
        have hcl := block_lt_of_cell hcell
        have j0 : (0 : Int) ≤ (j : Int) := by omega
        generalize unF m j = uj at *
        clear hco2 hjf
        go_wp2_with (go_at_call 21; refine (ho_ask HS HT.out (k := 4) (un := (uj : Int)) (e := 0) (p := (t : Int)) (s := ⟨#[]⟩) (fate := 0) (by omega) ZU.out (ZZ.out 0 (by omega)) ZT.out (by decide) HUJ2.out (ZZ.out 0 (by omega))).mono ?_; rintro e2 w10 ⟨xc, xn, xm, xz, xe, xd, vo, vc, c, hc, rfl, hx, hs10, hk10⟩; rw [asked0] at hs10; have S10 := Lib.hid hs10; have K10 := Lib.hid (HKJ.out.trans hk10); clear hc hx hs10 hk10)
        refine ⟨⟨j + 1, ⟨h2.n.done (akN 4 (uj : Int) 0 (t : Int) ⟨#[]⟩), h2.held⟩, by go_num, by omega, HN2, S10, K10⟩, by simp [intOf]; omega⟩
      · have n3 : ¬ (j : Int) < (C.length : Int) := by omega
        obtain rfl : j = C.length := by omega
        obtain ⟨ck2, coff2, hco2, hcell⟩ := row_at3 OJ.out hC0
        obtain ⟨rfl, rfl⟩ : ck2 = ck ∧ coff2 = coff := by simpa using hco2.symm
        rw [unit_at3 CLN.out CUN.out hC0] at hcell
        have HNL := Lib.hid (show TrimN h1.n m (t : Int) (lenF m) h2.n from CLN.out ▸ HN.out)
        obtain ⟨V, hF, hV, hV0⟩ := HNL.out.fetch LN.out
        have HF := Lib.hid hF
        have HKV := Lib.hid (show (h2.n.u (unF m 0)).p.kind (m / 3) = V from hV0)
        have HU0 := Lib.hid (show unF m 0 < 16 from by have := unF_low (a := m) (j := 0) (by rw [← CLN.out]; exact hC0); omega)
        have hk03 := LN.out.kind (a := m) (j := 0) (by rw [← CLN.out]; exact hC0)
        have key : (V = 3 ∧ m / 3 < (t : Int)) ∨ (¬ m / 3 < (t : Int) ∧ (V = 0 ∨ V = 1 ∨ V = 2)) := by
          have := hF.kind
          by_cases g : m / 3 < (t : Int)
          · rw [if_pos g] at hV; exact .inl ⟨hV, g⟩
          · rw [if_neg g] at hV; exact .inr ⟨g, by omega⟩
        have KEY := Lib.hid key
        have FTN := Lib.hid hF.ft
        have HX := Lib.hid (text_short3 hF.ft (a := m) (j := 0) (by rw [← CLN.out]; exact hC0))
        have C0 := Lib.hid (show wr.cell? ⟨ck2, coff2, none⟩ = some (.int .i64 (unF m 0 : Int)) ∧ wr.cell? ⟨g, 1, none⟩ = some (.int .i64 (m / 3)) from ⟨hcell, cell_of GJ.out 1⟩)
        clear hF hV hV0 hk03 key hcell hco2 HN
        generalize hu0 : unF m 0 = u0 at *
        clear hu0
        go_wp2_with fail
        go_region_held3 (fun W => W.cell? ⟨ck2, coff2, none⟩ = some (.int .i64 (u0 : Int)) ∧ W.cell? ⟨g, 1, none⟩ = some (.int .i64 (m / 3)))
          (first | exact C0.out | exact two_keepF3 (by assumption) hb10 | exact two_keepF3 (by assumption) hb11 | exact two_keepF3 (by assumption) hb12 | exact two_keepF3 (by assumption) hb13)
          (first
            | (go_at_call 20; refine (LS.kind bu pb F11 w12 _ (m / 3) P12.out HZ.out).mono ?_; rw [HKV.out]; rintro e w13 ⟨rfl, hb13⟩; have R13 := Lib.hid (R12.out.trans (hb13.mono R12.out.size)))
            | (go_at_call 17; refine (ho_pages HS P11.out).mono ?_; rintro e w12 ⟨rfl, hf12, hb12⟩; have P12 := Lib.hid hf12; have R12 := Lib.hid (R11.out.trans (hb12.mono R11.out.size)); clear hf12) | (go_at_call 16; refine (ho_unit HS S10.out (i := u0) HU0.out).mono ?_; rintro e w11 ⟨bu, pb, rfl, hb11, F11, hf11⟩; have P11 := Lib.hid hf11; have R11 := Lib.hid (R10.out.trans (hb11.mono R10.out.size)); clear hf11) | (go_at_call 15; refine (ho_nodes HS (HT.out.below (TT.out b nb) ((Below.refl _ _).drew))).mono ?_; rintro e w10 ⟨rfl, hs10, hb10⟩; have S10 := Lib.hid hs10; have R10 := Lib.hid (show Below wr.heap.size wr w10 from ((Below.refl wr.heap.size wr).drew).trans hb10); clear hs10))
        clear hb10 hb11 hb12 hb13
        have S13 := Lib.hid (HT.out.below (TT.out b nb) R13.out)
        have O13 := Lib.hid (OJ.out.keep (Kept.ofBelow R13.out (fun _ => True)) (fun _ _ _ => trivial))
        have B13 := Lib.hid (BJ.out.trans (R13.out.mono BJ.out.size))
        clear S10 P11 P12 C0 HT
        go_wp2_with fail
        go_loopw [16, 17] (fun u i wr => ∃ j : Nat, i = .int .i64 j ∧ j ≤ C.length ∧ u = .int .i64 (usedT h2.n m j : Nat) ∧ Hid (Solo (HG b nb) X9 wr h2) ∧ Hid (Below w13.heap.size w13 wr)) (fun _ i _ => C.length - (intOf i).toNat)
        case atStart => exact ⟨0, rfl, Nat.zero_le _, rfl, S13, Lib.hid (Below.refl _ _)⟩
        case round =>
          clear S13
          obtain ⟨j, rfl, hj, rfl, HT2, HBJ⟩ := hrel
          by_cases hjl : j < C.length
          · have n3 : (j : Int) < (C.length : Int) := by omega
            obtain ⟨ck3, coff3, hco3, hcell⟩ := row_at3 (O13.out.keep (Kept.ofBelow HBJ.out (fun _ => True)) (fun _ _ _ => trivial)) hjl
            obtain ⟨rfl, rfl⟩ : ck3 = ck2 ∧ coff3 = coff2 := by simpa using hco3.symm
            rw [unit_at3 CLN.out CUN.out hjl] at hcell
            have HCE := Lib.hid hcell
            have hjf : j < lenF m := by rw [← CLN.out]; exact hjl
            have HUJ := Lib.hid (show unF m j < 16 from by have := unF_low hjf; omega)
            obtain ⟨hu1, hu2⟩ := used_next (n := h2.n) (m := m) (j := j) FTN.out hjf
            have j0 : (0 : Int) ≤ (j : Int) := by omega
            generalize unF m j = uj at *
            generalize hln : (h2.n.u uj).p.l.length = ln at hu1
            generalize hnx : usedT h2.n m (j + 1) = nx at hu1 hu2
            generalize usedT h2.n m j = uu at *
            have HLN := Lib.hid hln
            have HNX := Lib.hid hnx
            have hwr : IntKind.i64.wrap ((uu : Int) + (ln : Int)) = ((nx : Nat) : Int) := by rw [IntWalk.i64_in _ (by omega)]; omega
            clear hcell hco3 hjf hu1 hu2 hln hnx
            go_wp2_with fail
            go_region_held3 (fun W => W.cell? ⟨ck3, coff3 + j, none⟩ = some (.int .i64 (uj : Int)))
              (first | exact HCE.out | exact one_keepF (by assumption) hb20 | exact one_keepF (by assumption) hb21 | exact one_keepF (by assumption) hb22 | exact one_keepF (by assumption) hb23)
              (first
                | (go_at_call 22; refine (LS.used bu pb F21 w22 _ P22.out).mono ?_; rw [HLN.out]; rintro e w23 ⟨rfl, hb23⟩; have R23 := Lib.hid (R22.out.trans (hb23.mono R22.out.size)))
                | (go_at_call 17; refine (ho_pages HS P21.out).mono ?_; rintro e w22 ⟨rfl, hf22, hb22⟩; have P22 := Lib.hid hf22; have R22 := Lib.hid (R21.out.trans (hb22.mono R21.out.size)); clear hf22) | (go_at_call 16; refine (ho_unit HS S20.out (i := uj) HUJ.out).mono ?_; rintro e w21 ⟨bu, pb, rfl, hb21, F21, hf21⟩; have P21 := Lib.hid hf21; have R21 := Lib.hid (R20.out.trans (hb21.mono R20.out.size)); clear hf21) | (go_at_call 15; refine (ho_nodes HS (HT2.out.below (TT.out b nb) ((Below.refl _ _).drew))).mono ?_; rintro e w20 ⟨rfl, hs20, hb20⟩; have S20 := Lib.hid hs20; have R20 := Lib.hid (show Below wr.heap.size wr w20 from ((Below.refl wr.heap.size wr).drew).trans hb20); clear hs20))
            all_goals
              go_wp2_with fail
              refine ⟨⟨j + 1, by go_num, by omega, by rw [HNX.out], Lib.hid (HT2.out.below (TT.out b nb) R23.out), Lib.hid (HBJ.out.trans (R23.out.mono HBJ.out.size))⟩, by simp [intOf]; omega⟩
          · have n3 : ¬ (j : Int) < (C.length : Int) := by omega
            obtain rfl : j = C.length := by omega
            generalize hwr0 : wr = wr0 at *
            generalize hto : usedT h2.n m C.length = tot at *
            have HTO := Lib.hid hto
            have HTB := Lib.hid (show tot ≤ 42 from by have := (used_up (m := m) FTN.out C.length 0 (by rw [CLN.out]; omega)).2; rw [Nat.zero_add] at this; omega)
            have htb := HTB.out
            clear hto
            go_wp2_with (go_at_call 8; refine (CT.out wr0).mono ?_; rintro e w14 ⟨ao14, rfl, hc, hb⟩; have C14 := Lib.hid (cg_cl hc); have N14 := Lib.hid (cg_none3 hc); have R14 := Lib.hid hb; have S14 := Lib.hid (HT2.out.wider (TT.out b nb) hb); have B14 := Lib.hid ((B13.out.trans (HBJ.out.mono B13.out.size)).trans (hb.mono (B13.out.trans (HBJ.out.mono B13.out.size)).size)); clear hc hb)
            have K14 := Lib.hid (((HKJ.out.below R13.out).below HBJ.out).below R14.out)
            have CR := Lib.hid (fread_nil3 HS FS b nb _ w14 h2 S14.out h2.n V (FX h2.n m 0) m false HF.out MM.out (fun _ => HX.out) HUJ2.out ao14 C14.out N14.out)
            generalize hSS : foundS V (FX h2.n m 0) = S at CR
            have HSS := Lib.hid hSS
            clear hSS
            have key := KEY.out
            clear C14 N14 S14 OJ GJ HT2
            by_cases hv03 : V = 0 ∨ V = 3
            · rcases hv03 with hv | hv
              all_goals
                subst hv
                first
                  | (have hlt : m / 3 < (t : Int) := by omega)
                  | (have hlt : ¬ m / 3 < (t : Int) := by omega)
                clear key
                have hS := HSS.out
                unfold foundS at hS
                rw [if_neg (by decide)] at hS
                obtain rfl : S = ⟨#[]⟩ := hS.symm
                clear hS HSS HF KEY
                go_wp2_with (go_at_call 19; refine CR.out.mono ?_; rintro e w15 ⟨h3, rfl, hs15, hk15, hn15, _⟩; have S15 := Lib.hid hs15; have FN15 := Lib.hid hn15; have K15 := Lib.hid (K14.out.trans (hk15.mono (fun k h => .inl h))); have B15 := Lib.hid (B14.out.trans (hk15.toBelow B14.out.size (fun j h => .inl (HXA.out j h)))); have G15 := Lib.hid (K15.out.heap (HXB.out g (by omega) (by omega)) HG9.out); have p0 := cell_of G15.out 1; have hgl := lt_of_block G15.out; clear hs15 hk15 hn15)
                have O15 := Lib.hid (O9.out.keep K15.out (fun k h1 h2 => HXB.out k (by omega) h2))
                have hn3 : h3.n = h2.n := FN15.out.same (by omega)
                have FT3 := Lib.hid (hn3.symm ▸ FTN.out)
                have HTOT := Lib.hid (show usedT h3.n m C.length = tot from hn3.symm ▸ HTO.out)
                go_loopw [16, 22] (fun u i wr => ∃ j : Nat, i = .int .i64 j ∧ j ≤ C.length ∧ u = .int .i64 ((tot : Int) - (usedT h3.n m j : Nat)) ∧ Hid (Solo (HG b nb) (fun k => X9 k ∨ (wr0.heap.size ≤ k ∧ k < w14.heap.size)) wr h3) ∧ Hid (Below w15.heap.size w15 wr)) (fun _ i _ => C.length - (intOf i).toNat)
                case atStart => exact ⟨0, rfl, Nat.zero_le _, by show _ = Value.int .i64 ((tot : Int) - ((0 : Nat) : Int)); simp, S15, Lib.hid (Below.refl _ _)⟩
                case round =>
                  clear S15
                  obtain ⟨j, rfl, hj, rfl, HT3, HBJ⟩ := hrel
                  by_cases hjl : j < C.length
                  · have n3 : (j : Int) < (C.length : Int) := by omega
                    obtain ⟨ck3, coff3, hco3, hcell⟩ := row_at3 (O15.out.keep (Kept.ofBelow HBJ.out (fun _ => True)) (fun _ _ _ => trivial)) hjl
                    obtain ⟨rfl, rfl⟩ : ck3 = ck2 ∧ coff3 = coff2 := by simpa using hco3.symm
                    rw [unit_at3 CLN.out CUN.out hjl] at hcell
                    have HCE := Lib.hid hcell
                    have hjf : j < lenF m := by rw [← CLN.out]; exact hjl
                    have HUJ := Lib.hid (show unF m j < 16 from by have := unF_low hjf; omega)
                    obtain ⟨hu1, hu2⟩ := used_next (n := h3.n) (m := m) (j := j) FT3.out hjf
                    have j0 : (0 : Int) ≤ (j : Int) := by omega
                    generalize unF m j = uj at *
                    generalize hln : (h3.n.u uj).p.l.length = ln at hu1
                    generalize hnx : usedT h3.n m (j + 1) = nx at hu1 hu2
                    generalize usedT h3.n m j = uu at *
                    have HLN := Lib.hid hln
                    have HNX := Lib.hid hnx
                    have hwr : IntKind.i64.wrap (((tot : Int) - (uu : Nat)) - (ln : Int)) = (tot : Int) - (nx : Nat) := by rw [IntWalk.i64_in _ (by omega)]; omega
                    clear hcell hco3 hjf hu1 hu2 hln hnx
                    go_wp2_with fail
                    go_region_held3 (fun W => W.cell? ⟨ck3, coff3 + j, none⟩ = some (.int .i64 (uj : Int)))
                      (first | exact HCE.out | exact one_keepF (by assumption) hb40 | exact one_keepF (by assumption) hb41 | exact one_keepF (by assumption) hb42 | exact one_keepF (by assumption) hb43)
                      (first
                        | (go_at_call 22; refine (LS.used bu pb F41 w42 _ P42.out).mono ?_; rw [HLN.out]; rintro e w43 ⟨rfl, hb43⟩; have R43 := Lib.hid (R42.out.trans (hb43.mono R42.out.size)))
                        | (go_at_call 17; refine (ho_pages HS P41.out).mono ?_; rintro e w42 ⟨rfl, hf42, hb42⟩; have P42 := Lib.hid hf42; have R42 := Lib.hid (R41.out.trans (hb42.mono R41.out.size)); clear hf42) | (go_at_call 16; refine (ho_unit HS S40.out (i := uj) HUJ.out).mono ?_; rintro e w41 ⟨bu, pb, rfl, hb41, F41, hf41⟩; have P41 := Lib.hid hf41; have R41 := Lib.hid (R40.out.trans (hb41.mono R40.out.size)); clear hf41) | (go_at_call 15; refine (ho_nodes HS (HT3.out.below (TT.out b nb) ((Below.refl _ _).drew))).mono ?_; rintro e w40 ⟨rfl, hs40, hb40⟩; have S40 := Lib.hid hs40; have R40 := Lib.hid (show Below wr.heap.size wr w40 from ((Below.refl wr.heap.size wr).drew).trans hb40); clear hs40))
                    all_goals
                      go_wp2_with fail
                      refine ⟨⟨j + 1, by go_num, by omega, by rw [HNX.out], Lib.hid (HT3.out.below (TT.out b nb) R43.out), Lib.hid (HBJ.out.trans (R43.out.mono HBJ.out.size))⟩, by simp [intOf]; omega⟩
                  · have n3 : ¬ (j : Int) < (C.length : Int) := by omega
                    obtain rfl : j = C.length := by omega
                    have hz : (tot : Int) - (usedT h3.n m C.length : Nat) = 0 := by rw [HTOT.out]; omega
                    rw [hz]
                    have BZ := Lib.hid (B15.out.trans (HBJ.out.mono B15.out.size))
                    go_wp2_with (go_at_call 10; refine (CW.out _).mono ?_; rintro e w30 ⟨rfl, hb30⟩; have B30 := Lib.hid (BZ.out.trans (hb30.mono BZ.out.size)); clear hb30)
                    go_ret
                    exact ⟨rfl, B30.out⟩
            · have hv12 : (V = 1 ∨ V = 2) ∧ ¬ m / 3 < (t : Int) := by omega
              obtain ⟨hv12, hlt⟩ := hv12
              clear key hv03
              rcases hv12 with hv | hv
              · subst hv
                go_wp2_with (first
                  | (go_at_call 10; refine (CW.out _).mono ?_; rintro e w30 ⟨rfl, hb30⟩; have B30 := Lib.hid (B15.out.trans (hb30.mono B15.out.size)); clear hb30)
                  | (go_at_call 19; refine CR.out.mono ?_; rintro e w15 ⟨h3, rfl, hs15, hk15, hn15, _⟩; have S15 := Lib.hid hs15; have FN15 := Lib.hid hn15; have K15 := Lib.hid (K14.out.trans (hk15.mono (fun k h => .inl h))); have B15 := Lib.hid (B14.out.trans (hk15.toBelow B14.out.size (fun j h => .inl (HXA.out j h)))); have G15 := Lib.hid (K15.out.heap (HXB.out g (by omega) (by omega)) HG9.out); have p0 := cell_of G15.out 1; have hgl := lt_of_block G15.out; clear hs15 hk15 hn15))
                go_ret
                exact ⟨rfl, B30.out⟩
              · subst hv
                have hS := HSS.out
                unfold foundS at hS
                rw [if_neg (by decide)] at hS
                obtain rfl : S = ⟨#[]⟩ := hS.symm
                clear hS
                go_wp2_with (first
                  | (go_at_call 10; refine (CW.out _).mono ?_; rintro e w30 ⟨rfl, hb30⟩; have B30 := Lib.hid (B15.out.trans (hb30.mono B15.out.size)); clear hb30)
                  | (go_at_call 19; refine CR.out.mono ?_; rintro e w15 ⟨h3, rfl, hs15, hk15, hn15, _⟩; have S15 := Lib.hid hs15; have FN15 := Lib.hid hn15; have K15 := Lib.hid (K14.out.trans (hk15.mono (fun k h => .inl h))); have B15 := Lib.hid (B14.out.trans (hk15.toBelow B14.out.size (fun j h => .inl (HXA.out j h)))); have G15 := Lib.hid (K15.out.heap (HXB.out g (by omega) (by omega)) HG9.out); have p0 := cell_of G15.out 1; have hgl := lt_of_block G15.out; clear hs15 hk15 hn15))
                go_ret
                exact ⟨rfl, B30.out⟩

  · rw [Bool.eq_false_iff.2 hf] at CF
    clear hf HFP
    go_enter Tryz.func5, Tryz.ntmps5
    go_wp2_with (first
      | (go_at_call 10; refine (CW.out _).mono ?_; rintro e w30 ⟨rfl, hb30⟩; have B30 := Lib.hid (B2.out.trans (hb30.mono B2.out.size)); clear hb30)
      | (go_at_call 9; refine (CF.out _ B2.out).mono ?_; rintro e wf ⟨rfl, rfl⟩)
      | (go_at_call 7; refine (CM.out _ _ C1.out).mono ?_; rintro e w2 ⟨b, nb, p, rfl, hs2, hb2⟩; have B2 := Lib.hid (B1.out.trans (hb2.mono B1.out.size)); clear hs2 hb2)
      | (go_at_call 8; refine (CT.out w).mono ?_; rintro e w1 ⟨ao1, rfl, hc, hb⟩; have C1 := Lib.hid (cg_cl hc); have B1 := Lib.hid hb; clear hc hb))
    go_ret
    exact ⟨rfl, B30.out⟩

set_option maxRecDepth 100000 in
theorem fetchTrims_lifted (os : Os) (started : os.Started) (H : Type) (enc : TypeId × Value → H) :
    ReturnsInHanded {} Tryz.checked os 5 .any (Rows.fetchTrimsSpec.pre6 enc Tryz.prog Tryz.f5 Rows.fetchTrimsRow.domain false) (Rows.fetchTrimsSpec.post enc Tryz.prog Tryz.f5 false true false false) := by
  refine returnsInHanded_of_change (C := Tryz.checked) own started (by kernel_rfl) Tryz.func5
    (ChangeSpec.witness6 (enc := enc) (C := Tryz.checked) false ⟨#[], #[.slice none 0 0, .int .i64 0, .int .u8 0], []⟩ 8 (by kernel_rfl) (by kernel_rfl) (by kernel_rfl) (by kernel_rfl)) ?_
  intro W base args ds gs before hval0 hW hcnd _
  have hval : ∀ (j : Nat) t v, Tryz.f5.params[j]? = some t → args[j]? = some v → Value.okWide Tryz.prog W .any base t v := hval0
  have hW' := hW
  obtain ⟨p, q, hA0, hV, rfl, hfz, hnd⟩ := hW
  have hA : DataW.TrodAll enc Tryz.prog W 0 (fun _ => true) true Tryz.f5.params.toList args.toList ds p := hA0
  rw [Tryz.params5] at hA hval
  obtain ⟨v0, vs0, d0, ds0, p0, q0, hargs, rfl, rfl, h0, r0⟩ := trodAll_cons hA
  obtain ⟨v1, vs1, d1, ds1, p1, q1, rfl, rfl, rfl, h1, r1⟩ := trodAll_cons r0
  obtain ⟨v2, vs2, d2, ds2, p2, q2, rfl, rfl, rfl, h2, r2⟩ := trodAll_cons r1
  obtain ⟨rfl, rfl, rfl⟩ := trodAll_nil r2
  obtain rfl : args = #[v0, v1, v2] := by cases args; simp_all
  obtain ⟨rfl, rfl⟩ := trodVars_none hV
  have k0 := h0
  have lt0 : ∀ x ∈ p0, x.block < W.heap.size := by obtain ⟨m, hm⟩ := k0; exact DataW.trod_lt m _ _ _ hm
  have k1 := h1
  have lt1 : ∀ x ∈ p1, x.block < W.heap.size := by obtain ⟨m, hm⟩ := k1; exact DataW.trod_lt m _ _ _ hm
  have k2 := h2
  have lt2 : ∀ x ∈ p2, x.block < W.heap.size := by obtain ⟨m, hm⟩ := k2; exact DataW.trod_lt m _ _ _ hm
  obtain ⟨ao0, cap0, L0, rfl, w0, hR0, hK0, hn0, hc0⟩ := open_rows (f := putC) (ok := PtIn) (n := 3) Tryz.underlying22 (by kernel_rfl) (fun m cs y hl hf => put_cs Tryz.underlying85 rfl rfl rfl rfl Tryz.underlying3 Tryz.underlying4 Tryz.underlying9 (by kernel_rfl) (by kernel_rfl) (by kernel_rfl) hl hf) (hval 0 22 v0 rfl rfl) h0
  obtain ⟨a1, rfl, rfl, rfl, w1⟩ := open_int Tryz.underlying3 (hval 1 3 v1 rfl rfl) h1
  obtain ⟨a2, rfl, rfl, rfl, w2⟩ := open_int Tryz.underlying5 (hval 2 5 v2 rfl rfl) h2
  clear hA0 hval0
  refine (fetchTrims_walk handSays fetchSays looksSays ao0 cap0 L0 a1 a2 w0 w1 w2 W hR0 hK0).mono fun e W' ⟨he, bel⟩ => ?_
  subst he
  exact ⟨_, rfl, _, _, _, [], _, [], hW', trodAll_mk1 (shut_bool Tryz.underlying4 _), (trodAll_cons_mk (Below.trod laidOut (by kernel_rfl) (of_decide_eq_true (by kernel_rfl)) k0 bel lt0) (trodAll_cons_mk (Below.trod laidOut (by kernel_rfl) (of_decide_eq_true (by kernel_rfl)) k1 bel lt1) (trodAll_cons_mk (Below.trod laidOut (by kernel_rfl) (of_decide_eq_true (by kernel_rfl)) k2 bel lt2) trodAll_mk0))), rfl, bel.frame _, fun h => by cases h⟩

theorem fetchTrims_over : Rows.fetchTrimsRow.holds Tryz.pinned (OpenSpec.ofChange Rows.fetchTrimsSpec) :=
  OpenClaim.holds_of_wide 5 Tryz.f5 rfl rfl rfl rfl rfl rfl rfl ⟨rfl, rfl, rfl, rfl, rfl⟩ rfl rfl rfl rfl rfl (by kernel_rfl) Tryz.func5 (by kernel_rfl)
    (of_decide_eq_true (by kernel_rfl)) (by unfold Func.isWrapper; first | (rw [if_pos (by decide +kernel)]; kernel_rfl) | (rw [if_neg (by decide +kernel)]; exact ⟨rfl, rfl⟩))
    (fun os started H enc _ => fetchTrims_lifted os started H enc)

/-- THE STATEMENT -/
theorem fetchTrims_holds : Rows.FetchTrimsSaid := fetchTrims_over 
end Go.Proofs.YthffjanidjjkdaaGreat
