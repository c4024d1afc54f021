/- The law AppendOrder: appends that go on between each other end at addresses of their own, and each reads as its record. Conditions: none. (Written by gen/genapporder.py.) -/
import Derived.Test.YtimjlfkdbkafeaaGreatG31a
import Derived.Test.YtimjlfkdbkafeaaGreatG37a
import Derived.Test.YtimjlfkdbkafeaaGreatG28b
import Derived.Test.YtimjlfkdbkafeaaGreatG30a
import Derived.Test.YtimjlfkdbkafeaaGreatG12b
import Derived.Test.YtimjlfkdbkafeaaGreatG13a
import Derived.Test.YtimjlfkdbkafeaaGreatG11a
import Derived.Test.YtimjlfkdbkafeaaGreatG04a
import Derived.Deep.RegionHeld3
import Derived.Deep.RegionLaw
import Derived.Deep.RegionHeldLaw
import Derived.Laws.BytesArg
namespace Go.Proofs.YtimjlfkdbkafeaaGreat
open Go.ChangeShapes Go.WideShapes Go.ChangeAt Go.RowKit
open Go.ChangeMaps (open_string shut_string)
set_option linter.unusedVariables false
set_option maxRecDepth 20000
theorem or_used : (newL 0 orL).used.length ≤ 100000 := by decide +kernel
theorem few_or : fewL orL := ⟨by decide, by decide⟩
/-- what the k-th append says -/
def txtO (L : List ByteArray) (k : Nat) : ByteArray := strOfNums [(k : Int)] ++ L.getD k ⟨#[]⟩
theorem txtO_at {L : List ByteArray} {k : Nat} (hk : k < L.length) : txtO L k = strOfNums [(k : Int)] ++ L[k] := by
  unfold txtO
  rw [List.getD_eq_getElem?_getD, List.getElem?_eq_getElem hk]
  rfl
theorem txtO_size {L : List ByteArray} {k : Nat} (hk : k < L.length) (h : L[k].size ≤ 500) : (txtO L k).size ≤ 4096 := by
  rw [txtO_at hk, ByteArray.size_append, show (strOfNums [(k : Int)]).size = 1 from rfl]
  omega
theorem conv_one (k : Nat) (W : World) : (convert 22 9 (.slice (some ⟨W.heap.size, 0, none⟩) 1 1)).run Tryz.prog (W.alloc (.cells #[.int .u8 (k : Int)] 5)) = .ok (.string (strOfNums [(k : Int)])) (W.alloc (.cells #[.int .u8 (k : Int)] 5)) := by
  refine run_convert_bytes_arg _ 22 5 Tryz.underlying22 Tryz.underlying5 W.heap.size 0 1 1 [(k : Int)] rfl ?_ 9 Tryz.underlying9
  intro i hi
  obtain rfl : i = 0 := by omega
  exact cell_of (heap_alloc_new W _) 0
theorem or_over {a : Ap} (h : a.at_ = 6) (he : a.e = 0) : a.overA = a.addr ∧ a.overE = 0 ∧ a.overB = true := ⟨if_pos ⟨h, he⟩, by unfold Ap.overE; rw [if_pos h, he], decide_eq_true h⟩
theorem duo_keep2 {W W' : World} {p q o o2 : Nat} {u v : Value} (h : W.cell? ⟨p, o, none⟩ = some u ∧ W.cell? ⟨q, o2, none⟩ = some v) (hb : Below W.heap.size W W') : W'.cell? ⟨p, o, none⟩ = some u ∧ W'.cell? ⟨q, o2, none⟩ = some v := ⟨cellB hb (block_lt_of_cell h.1) h.1, cellB hb (block_lt_of_cell h.2) h.2⟩
theorem range_put (B : Nat → Nat) (k b : Nat) : (List.range (k + 1)).map (fun j => if j = k then b else B j) = (List.range k).map B ++ [b] := by
  rw [List.range_succ, List.map_append]
  congr 1
  · apply List.map_congr_left
    intro j hj
    have := List.mem_range.1 hj
    rw [if_neg (by omega)]
  · simp
theorem three_keep2 {W W' : World} {p q o o2 o3 : Nat} {u v x : Value} (h : W.cell? ⟨p, o, none⟩ = some u ∧ W.cell? ⟨p, o2, none⟩ = some v ∧ W.cell? ⟨q, o3, none⟩ = some x) (hb : Below W.heap.size W W') : W'.cell? ⟨p, o, none⟩ = some u ∧ W'.cell? ⟨p, o2, none⟩ = some v ∧ W'.cell? ⟨q, o3, none⟩ = some x := ⟨cellB hb (block_lt_of_cell h.1) h.1, cellB hb (block_lt_of_cell h.2.1) h.2.1, cellB hb (block_lt_of_cell h.2.2) h.2.2⟩
theorem u8_small (k : Nat) (h : k < 256) : IntKind.u8.wrap (k : Int) = (k : Int) := by
  rw [IntKind.wrap_u8]
  omega
set_option maxHeartbeats 16000000 in
theorem appendOrder_walk {UG : Nat → Nat → (Nat → Prop) → World → Us → Prop} {OG : Nat → (Nat → Prop) → World → Od → Prop} {LG : Nat → (Nat → Prop) → World → Ly → Prop} {NG : Nat → (Nat → Prop) → World → Nd → Prop} {HG : Nat → Nat → (Nat → Prop) → World → Hd → Prop} {AG : Nat → (Nat → Prop) → World → Ap → Prop} (HS : HandSays UG OG LG NG HG) (AS : AppSays AG) (RD : ReadSays UG) (ao : Option Addr) (cap : Nat) (L : List ByteArray) (bo : Option Addr) (cbp : Nat) (d : List Int) (hl : L.length ≤ maxLen) (hd : d.length ≤ maxLen) (w : World) (hR : SLI w ao cap L) (hR2 : Row w bo 1 byteC d) (hK2 : ∀ x ∈ d, byteOk w x) :
    Calls Tryz.prog 4 #[.slice ao L.length cap, .slice bo d.length cbp] w fun e w' => e = .returned (.bool true) ∧ Below w.heap.size w w' := by
  have CW := Lib.hid (fun w => wakes15_any HS AS RD w)
  unfold maxLen at hl hd
  have hl' : (L.length : Int) ≤ 9223372036854775807 := by omega
  have hd' : (d.length : Int) ≤ 9223372036854775807 := by omega
  have ZZ := Lib.hid (fun (x : Int) (h : 0 ≤ x ∧ x ≤ 300) => show i64w x from WalkArith.wf_i64 (by omega))
  have TT := Lib.hid (fun b nb => HS.thing b nb)
  have HF := Lib.hid hR.1
  have HF2 := Lib.hid hR2
  have HK2 := Lib.hid hK2
  have hw1 : Below w.heap.size w ((((w.alloc (.cells #[.int .i64 0, .int .i64 1] 3)).alloc (.cells #[.int .i64 2, .int .i64 3] 3)).alloc (.cells #[.slice (some ⟨w.heap.size, 0, none⟩) 2 2, .slice (some ⟨w.heap.size + 1, 0, none⟩) 2 2] 24)).alloc (.cells #[.int .i64 0, .slice (some ⟨w.heap.size + 1 + 1, 0, none⟩) 2 2] 27)) := (lit2_below w [0, 1] [2, 3]).trans ((below_new (((w.alloc (.cells #[.int .i64 0, .int .i64 1] 3)).alloc (.cells #[.int .i64 2, .int .i64 3] 3)).alloc (.cells #[.slice (some ⟨w.heap.size, 0, none⟩) 2 2, .slice (some ⟨w.heap.size + 1, 0, none⟩) 2 2] 24)) (.cells #[.int .i64 0, .slice (some ⟨w.heap.size + 1 + 1, 0, none⟩) 2 2] 27)).mono (lit2_below w [0, 1] [2, 3]).size)
  have hc1 : CL ((((w.alloc (.cells #[.int .i64 0, .int .i64 1] 3)).alloc (.cells #[.int .i64 2, .int .i64 3] 3)).alloc (.cells #[.slice (some ⟨w.heap.size, 0, none⟩) 2 2, .slice (some ⟨w.heap.size + 1, 0, none⟩) 2 2] 24)).alloc (.cells #[.int .i64 0, .slice (some ⟨w.heap.size + 1 + 1, 0, none⟩) 2 2] 27)) (some ⟨w.heap.size + 1 + 1, 0, none⟩) orL := (lit2_chain w (l := [0, 1]) (m := [2, 3]) (num_small (by simp)) (num_small (by simp))).here.1.below (below_new (((w.alloc (.cells #[.int .i64 0, .int .i64 1] 3)).alloc (.cells #[.int .i64 2, .int .i64 3] 3)).alloc (.cells #[.slice (some ⟨w.heap.size, 0, none⟩) 2 2, .slice (some ⟨w.heap.size + 1, 0, none⟩) 2 2] 24)) (.cells #[.int .i64 0, .slice (some ⟨w.heap.size + 1 + 1, 0, none⟩) 2 2] 27))
  have hp1 : ((((w.alloc (.cells #[.int .i64 0, .int .i64 1] 3)).alloc (.cells #[.int .i64 2, .int .i64 3] 3)).alloc (.cells #[.slice (some ⟨w.heap.size, 0, none⟩) 2 2, .slice (some ⟨w.heap.size + 1, 0, none⟩) 2 2] 24)).alloc (.cells #[.int .i64 0, .slice (some ⟨w.heap.size + 1 + 1, 0, none⟩) 2 2] 27)).heap[w.heap.size + 1 + 1 + 1]? = some ((.cells #[.int .i64 0, .slice (some ⟨w.heap.size + 1 + 1, 0, none⟩) 2 2] 27) : Obj) := by
    have h := heap_alloc_new (((w.alloc (.cells #[.int .i64 0, .int .i64 1] 3)).alloc (.cells #[.int .i64 2, .int .i64 3] 3)).alloc (.cells #[.slice (some ⟨w.heap.size, 0, none⟩) 2 2, .slice (some ⟨w.heap.size + 1, 0, none⟩) 2 2] 24)) (.cells #[.int .i64 0, .slice (some ⟨w.heap.size + 1 + 1, 0, none⟩) 2 2] 27)
    rw [show (((w.alloc (.cells #[.int .i64 0, .int .i64 1] 3)).alloc (.cells #[.int .i64 2, .int .i64 3] 3)).alloc (.cells #[.slice (some ⟨w.heap.size, 0, none⟩) 2 2, .slice (some ⟨w.heap.size + 1, 0, none⟩) 2 2] 24)).heap.size = w.heap.size + 1 + 1 + 1 from by simp] at h
    exact h
  have HW1 := Lib.hid hw1
  have HP1 := Lib.hid hp1
  have HC1 := Lib.hid hc1
  have CM := Lib.hid (fun ao W (hC : CL W ao orL) => show Calls Tryz.prog 8 #[.agg #[.int .i64 0, .slice ao 2 2], .int .i64 300] W fun e w' => ∃ b nb : Nat, ∃ p : Value, e = .returned (.tuple #[.pointer (some ⟨b, 0, none⟩), p, .bool true]) ∧ Solo (HG b nb) (fun k => k < W.heap.size) w' ⟨newN 0 orL 300, []⟩ ∧ Below W.heap.size W w' from (made14_yes HS 0 ao 2 orL 300 W hC few_or orL_good (by decide) (ZZ.out 0 (by omega))).mono (by
    rintro e w' ⟨b, nb, r, rn, he, hs, hb⟩
    exact ⟨b, nb, _, he, hs.left, hb⟩))
  clear hw1 hc1 hp1 hR hR2 hK2
  by_cases h12 : 12 < L.length
  · have h1 : (12 : Int) < (L.length : Int) := by omega
    clear h12
    go_enter Tryz.func4, Tryz.ntmps4
    go_wp2_with (first
      | (go_at_call 8; refine (CM.out _ _ HC1.out).mono ?_; rintro e w2 ⟨b, nb, p, rfl, hs2, hb2⟩; have S2 := Lib.hid hs2; have B2 := Lib.hid hb2; clear hs2 hb2)
      | (go_at_call 7; refine (CW.out _).mono ?_; rintro e w9 ⟨rfl, hb9⟩; have B9 := Lib.hid (B2.out.trans (hb9.mono B2.out.size)); clear hb9))
    go_ret
    exact ⟨rfl, HW1.out.trans (B9.out.mono HW1.out.size)⟩
  have h1 : ¬ (12 : Int) < (L.length : Int) := by omega
  by_cases h100 : 100 < d.length
  · have h2 : (100 : Int) < (d.length : Int) := by omega
    clear h12 h100
    go_enter Tryz.func4, Tryz.ntmps4
    go_wp2_with (first
      | (go_at_call 8; refine (CM.out _ _ HC1.out).mono ?_; rintro e w2 ⟨b, nb, p, rfl, hs2, hb2⟩; have S2 := Lib.hid hs2; have B2 := Lib.hid hb2; clear hs2 hb2)
      | (go_at_call 7; refine (CW.out _).mono ?_; rintro e w9 ⟨rfl, hb9⟩; have B9 := Lib.hid (B2.out.trans (hb9.mono B2.out.size)); clear hb9))
    go_ret
    exact ⟨rfl, HW1.out.trans (B9.out.mono HW1.out.size)⟩
  have h2 : ¬ (100 : Int) < (d.length : Int) := by omega
  have hL12 : L.length ≤ 12 := by omega
  have hd100 : d.length ≤ 100 := by omega
  clear h12 h100
  go_enter Tryz.func4, Tryz.ntmps4
  go_wp2_with (go_at_call 8; refine (CM.out _ _ HC1.out).mono ?_; rintro e w2 ⟨b, nb, p, rfl, hs2, hb2⟩; have S2 := Lib.hid hs2; have B2 := Lib.hid hb2; clear hs2 hb2)
  clear CM
  generalize hW1 : ((((w.alloc (.cells #[.int .i64 0, .int .i64 1] 3)).alloc (.cells #[.int .i64 2, .int .i64 3] 3)).alloc (.cells #[.slice (some ⟨w.heap.size, 0, none⟩) 2 2, .slice (some ⟨w.heap.size + 1, 0, none⟩) 2 2] 24)).alloc (.cells #[.int .i64 0, .slice (some ⟨w.heap.size + 1 + 1, 0, none⟩) 2 2] 27)) = W1 at *
  clear hW1
  have S0 := Lib.hid (ma_start AS (fun _ => 0) (fun k => newAp 0 orL (txtO L k)) S2.out)
  go_loopw [9, 10] (fun v i wr => ∃ (k : Nat) (X : Nat → Prop) (B : Nat → Nat) (lo : Option Addr) (lc : Nat), v = .slice lo k lc ∧ i = .int .i64 k ∧ k ≤ L.length ∧ Hid (∀ j (hj : j < L.length), j < k → L[j].size ≤ 500) ∧ Hid (Side (HG b nb) (MA AG B k) X wr ⟨newN 0 orL 300, []⟩ (fun k => newAp 0 orL (txtO L k))) ∧ Hid (Row wr lo 1 ptrC ((List.range k).map B)) ∧ Hid (∀ a, lo = some a → X a.block) ∧ Hid (∀ j, j < W1.heap.size → X j) ∧ Hid (Below W1.heap.size W1 wr)) (fun _ i _ => L.length - (intOf i).toNat)
  case atStart => exact ⟨0, _, _, none, 0, rfl, rfl, Nat.zero_le _, Lib.hid (fun j _ hj => absurd hj (Nat.not_lt_zero j)), S0, Lib.hid (Row.nil _ _ _ _), Lib.hid (fun a e => by cases e), Lib.hid (fun j hj => hj), B2⟩
  case round =>
    clear S0 S2 B2
    obtain ⟨k, X, B, lo, lc, rfl, rfl, hk, H5, HT, HR, HX, HX1, HB⟩ := hrel
    by_cases hlt : k < L.length
    · obtain ⟨bk, off, hao, c0w⟩ := HF.out k hlt
      subst hao
      have c0 : wr.cell? ⟨bk, off + k, none⟩ = some (.string L[k]) := cellB HB.out (Nat.lt_of_lt_of_le (block_lt_of_cell c0w) HW1.out.size) (cellB HW1.out (block_lt_of_cell c0w) c0w)
      have k0 : (k : Int) < (L.length : Int) := by omega
      have k1 : (0 : Int) ≤ (k : Int) := by omega
      by_cases h500 : 500 < L[k].size
      · have h5 : (500 : Int) < (L[k].size : Int) := by omega
        clear h500
        generalize L[k] = r at *
        go_wp2_with (go_at_call 7; refine (CW.out _).mono ?_; rintro e w9 ⟨rfl, hb9⟩; have B9 := Lib.hid (HB.out.trans (hb9.mono HB.out.size)); clear hb9)
        go_ret
        exact ⟨rfl, HW1.out.trans (B9.out.mono HW1.out.size)⟩
      · have h5 : ¬ (500 : Int) < (L[k].size : Int) := by omega
        have HH5 := Lib.hid (show ∀ j (hj : j < L.length), j < k + 1 → L[j].size ≤ 500 from fun j hj hjk => by
          by_cases e : j = k
          · subst e; omega
          · exact H5.out j hj (by omega))
        have HTX := Lib.hid (txtO_at hlt)
        have H500 := Lib.hid (show L[k].size ≤ 500 from by omega)
        clear h500
        have ht := txtO_size hlt H500.out
        have H4096 := Lib.hid ht
        generalize L[k] = r at *
        have u8 : IntKind.u8.wrap (k : Int) = (k : Int) := u8_small k (by omega)
        have hcv : (convert 22 9 (.slice (some ⟨wr.heap.size, 0, none⟩) 1 1)).run Tryz.prog (wr.alloc (.cells #[.int .u8 (k : Int)] 5)).drew = .ok (.string (strOfNums [(k : Int)])) (wr.alloc (.cells #[.int .u8 (k : Int)] 5)).drew := conv_one k wr.drew
        obtain ⟨p0, p1, _, _⟩ := two_cells (below_heap HB.out HP1.out)
        have P0 := Lib.hid (show wr.cell? ⟨w.heap.size + 1 + 1 + 1, 0, none⟩ = some (.int .i64 0) ∧ wr.cell? ⟨w.heap.size + 1 + 1 + 1, 1, none⟩ = some (.slice (some ⟨w.heap.size + 1 + 1, 0, none⟩) 2 2) ∧ wr.cell? ⟨bk, off + k, none⟩ = some (.string r) from ⟨p0, p1, c0⟩)
        have hcc : ¬ 9223372036854775807 < (strOfNums [(k : Int)]).size + r.size := by
          rw [show (strOfNums [(k : Int)]).size = 1 from rfl]
          have := H500.out
          omega
        have hbk := block_lt_of_cell c0
        have hpk := block_lt_of_cell p0
        clear c0w ht
        have HUB := Lib.hid (show Below wr.heap.size wr (wr.drew.alloc (.cells #[.int .u8 (k : Int)] 5)) from (Below.refl _ _).drew.alloc (Nat.le_refl _) _)
        have TM := Lib.hid (fun B m => ma_thing AS B m)
        have HCW := Lib.hid (HC1.out.below (HB.out.trans (HUB.out.mono HB.out.size)))
        have CAD := Lib.hid (fun (W : World) (hb : Below wr.heap.size wr W) (ba : Nat) => show Calls Tryz.prog 21 #[.slice lo k lc, .pointer (some ⟨ba, 0, none⟩)] W fun e w' => ∃ g : Nat, e = .returned (.slice (some ⟨g, 0, none⟩) (k + 1) (k + 1)) ∧ Row w' (some ⟨g, 0, none⟩) 1 ptrC ((List.range k).map B ++ [ba]) ∧ (W.heap.size ≤ g ∧ g < w'.heap.size) ∧ Below W.heap.size W w' from by
          have h := addTo_any lo lc ((List.range k).map B) ba W (Row.keep HR.out (Kept.ofBelow hb (fun _ => True)) (fun _ _ => trivial)) (by rw [List.length_map, List.length_range]; omega)
          rwa [List.length_map, List.length_range] at h)
        go_wp2_with fail
        go_region_law (first
            | (go_simp; go_at_call 21; refine (CAD.out w4 B4x.out ba).mono ?_; rintro e w5 ⟨g, rfl, hr5, hg5, hb5⟩; have R5 := Lib.hid hr5; have G5 := Lib.hid hg5; have T5 := Lib.hid (T4.out.wider (TT.out b nb) (TM.out _ _) hb5); have B5x := Lib.hid (B4x.out.trans (hb5.mono B4x.out.size)); clear hr5 hg5)
            | (go_simp; go_at_call 9; refine (ma_new (w := (wr.alloc (.cells #[.int .u8 (k : Int)] 5)).drew) AS (TT.out b nb) (HT.out.below (TT.out b nb) (TM.out _ _) HUB.out) (ep := 0) (cap := 2) (L := orL) (rec_ := strOfNums [(k : Int)] ++ r) HCW.out few_or (fun e => by cases e) (Nat.le_refl _) (ZZ.out 0 (by omega)) (by rw [← HTX.out]; exact Nat.le_trans H4096.out (by decide)) (by show newAp 0 orL (txtO L k) = _; rw [HTX.out])).mono ?_; rintro e w4 ⟨ba, rfl, hs4, hb4⟩; have T4 := Lib.hid hs4; have B4x := Lib.hid (show Below wr.heap.size wr w4 from HUB.out.trans (hb4.mono HUB.out.size)); clear hs4))
        all_goals
          go_wp2_with fail
          exact ⟨⟨k + 1, _, _, some ⟨g, 0, none⟩, k + 1, rfl, by go_num, by omega, HH5, T5, Lib.hid (by rw [range_put]; exact R5.out), Lib.hid (fun a e => by cases e; exact .inr G5.out), Lib.hid (fun j hj => .inl (HX1.out j hj)), Lib.hid (HB.out.trans (B5x.out.mono HB.out.size))⟩, by simp [intOf]; omega⟩
    · obtain rfl : k = L.length := by omega
      obtain ⟨w6, rfl⟩ : ∃ w6, w6 = wr := ⟨wr, rfl⟩
      by_cases hM : 0 < L.length
      · have HOR0 := Lib.hid (show OrS (txtO L) L.length (Hd.n ⟨newN 0 orL 300, []⟩) (fun k => newAp 0 orL (txtO L k)) from OrS.start (txtO L) (fun j hj => txtO_size hj (H5.out j hj hj)))
        have HSZ := Lib.hid (fun j (hj : j < L.length) => txtO_size hj (H5.out j hj hj))
        have TM := Lib.hid (fun B m => ma_thing AS B m)
        have HPR := Lib.hid (fun W (hk : Kept X w6 W) j (hj : j < L.length) => show ∃ lb off, lo = some ⟨lb, off, none⟩ ∧ W.cell? ⟨lb, off + j, none⟩ = some (.pointer (some ⟨B j, 0, none⟩)) from by
          have hj2 : j < ((List.range L.length).map B).length := by rw [List.length_map, List.length_range]; exact hj
          obtain ⟨lb, off, e, hc⟩ := ptr_at (Row.keep HR.out hk (fun a e => HX.out a e)) hj2
          refine ⟨lb, off, e, ?_⟩
          rw [hc, List.getElem_map, List.getElem_range])
        have HM0 := Lib.hid hM
        have hLz : ¬ (L.length : Int) = 0 := by omega
        have hLp : (0 : Int) < (L.length : Int) := by omega
        generalize (⟨newN 0 orL 300, []⟩ : Hd) = h0 at *
        generalize (fun k => newAp 0 orL (txtO L k)) = A0 at *
        go_wp2_with fail
        go_loopw [11] (fun i wv => ∃ (k : Nat) (h : Hd) (A : Nat → Ap), i = .int .i64 k ∧ k ≤ d.length ∧ Hid (OrS (txtO L) L.length h.n A) ∧ Hid (Side (HG b nb) (MA AG B L.length) X wv h A) ∧ Hid (Kept X w6 wv)) (fun i _ => d.length - (intOf i).toNat)
        case atStart => exact ⟨0, h0, A0, rfl, Nat.zero_le _, HOR0, HT, Lib.hid (Kept.refl _ _)⟩
        case round =>
          clear HOR0 HT hlt hk
          obtain ⟨k, h, A, rfl, hk, HO, HT, HK⟩ := hrel
          by_cases hlt : k < d.length
          · have n0 : (k : Int) < (d.length : Int) := by omega
            obtain ⟨bj, of2, hbo, d0w⟩ := byte_at HF2.out hlt
            subst hbo
            have d0 : w6.cell? ⟨bj, of2 + k, none⟩ = some (.int .u8 d[k]) := cellB HB.out (Nat.lt_of_lt_of_le (block_lt_of_cell d0w) HW1.out.size) (cellB HW1.out (block_lt_of_cell d0w) d0w)
            have d1 : wr.cell? ⟨bj, of2 + k, none⟩ = some (.int .u8 d[k]) := (World.cell?_of_block (a := ⟨bj, of2 + k, none⟩) (HK.out.block bj (HX1.out bj (Nat.lt_of_lt_of_le (block_lt_of_cell d0w) HW1.out.size)) (block_lt_of_cell d0))).trans d0
            have hv := HK2.out _ (List.getElem_mem hlt)
            clear d0w d0
            generalize d[k] = v at *
            obtain ⟨v0, v1⟩ := hv
            obtain ⟨q, hq, hqM⟩ : ∃ q : Nat, v.tmod (L.length : Int) = (q : Int) ∧ q < L.length := by
              have h3 := Int.tmod_nonneg (L.length : Int) v0
              have h4 := Int.tmod_lt_of_pos v hLp
              exact ⟨(v.tmod (L.length : Int)).toNat, by omega, by omega⟩
            obtain ⟨lb, lof, hlo, hpc⟩ := HPR.out wr HK.out q hqM
            have q0 : (0 : Int) ≤ (q : Int) ∧ (q : Int) < (L.length : Int) := by omega
            have hlb := block_lt_of_cell hpc
            by_cases h6 : (A q).at_ = 6
            · have CT := Lib.hid (turn_no HS AS hqM HT.out h6)
              clear h6
              subst hlo
              go_wp2_with (go_at_call 22; refine CT.out.mono ?_; rintro e v3 ⟨rfl, hs3, hk3⟩; have T3 := Lib.hid hs3; have K3 := Lib.hid (HK.out.trans hk3); clear hs3 hk3)
              exact ⟨⟨k + 1, h, A, by go_num, by omega, HO, T3, K3⟩, by simp [intOf]; omega⟩
            · have CT := Lib.hid (turn_yes HS AS hqM HT.out h6 (HO.out.small hL12 hqM (HSZ.out q hqM) h6) (by rw [HO.out.used]; exact or_used))
              have HO2 := Lib.hid (or_turn HO.out hL12 hqM (HSZ.out q hqM) h6).1
              clear h6
              subst hlo
              go_wp2_with (go_at_call 22; refine CT.out.mono ?_; rintro e v3 ⟨rfl, hs3, hk3⟩; have T3 := Lib.hid hs3; have K3 := Lib.hid (HK.out.trans hk3); clear hs3 hk3)
              exact ⟨⟨k + 1, _, _, by go_num, by omega, HO2, T3, K3⟩, by simp [intOf]; omega⟩
          · obtain rfl : k = d.length := by omega
            obtain ⟨w7, rfl⟩ : ∃ w7, w7 = wr := ⟨wr, rfl⟩
            have hmx : ¬ X w7.heap.size := fun h => by have := HT.out.1 _ h; omega
            have HBW := Lib.hid (fun W (hk : Kept X w6 W) => HB.out.trans ((hk.toBelow HB.out.size HX1.out).mono (Nat.le_refl _)))
            have T8 := Lib.hid (fun o => HT.out.beside (TT.out b nb) (TM.out B L.length) o)
            have K8 := Lib.hid (fun o => HK.out.below (below_new w7 o))
            have hw7 : w.heap.size + 1 + 1 + 1 < w7.heap.size := by
              have h3 := lt_of_block HP1.out
              have h4 := HB.out.size
              have h5 := HK.out.size
              omega
            go_wp2_with fail
            go_loopw [13] (fun i wv => ∃ (k : Nat) (h : Hd) (A : Nat → Ap) (f : Nat → Bool), i = .int .i64 k ∧ k ≤ L.length ∧ Hid (OrS (txtO L) L.length h.n A) ∧ Hid (Side (HG b nb) (MA AG B L.length) (fun j => X j ∨ j = w7.heap.size) wv h A) ∧ Hid (Kept X w6 wv) ∧ Hid (wv.heap[w7.heap.size]? = some (.cells (metC f) 66 (0, 0))) ∧ Hid (Met f k A)) (fun i _ => L.length - (intOf i).toNat)
            case atStart => exact ⟨0, h, A, fun _ => false, rfl, Nat.zero_le _, HO, Lib.hid (T8.out _), Lib.hid (K8.out _), Lib.hid (heap_alloc_new w7 _), Lib.hid ⟨fun j hj => absurd hj (Nat.not_lt_zero j), fun y hy => by cases hy⟩⟩
            case round =>
              clear HO HT T8 K8
              obtain ⟨k, h, A, f, rfl, hk3, HO, HT, HK3, HH, HME⟩ := hrel
              by_cases hlt3 : k < L.length
              · have n0 : (k : Int) < (L.length : Int) := by omega
                have n1 : (0 : Int) ≤ (k : Int) := by omega
                go_wp2_with fail
                go_loopw [14] (fun i wv => ∃ (t : Nat) (h : Hd) (A : Nat → Ap), i = .int .i64 t ∧ t + leftO (A k) ≤ 3 ∧ Hid (OrS (txtO L) L.length h.n A) ∧ Hid (Side (HG b nb) (MA AG B L.length) (fun j => X j ∨ j = w7.heap.size) wv h A) ∧ Hid (Kept X w6 wv) ∧ Hid (wv.heap[w7.heap.size]? = some (.cells (metC f) 66 (0, 0))) ∧ Hid (Met f k A)) (fun i _ => 20 - (intOf i).toNat)
                case atStart => exact ⟨0, h, A, rfl, by have := leftO_le (A k); omega, HO, HT, HK3, HH, HME⟩
                case round =>
                  clear HO HT HK3 HH HME
                  obtain ⟨t, h, A, rfl, htl, HO, HT, HK3, HH, HME⟩ := hrel
                  have t20 : (t : Int) < 20 := by omega
                  obtain ⟨lb, lof, hlo, hpc⟩ := HPR.out wr HK3.out k hlt3
                  have hlb := block_lt_of_cell hpc
                  by_cases h6 : (A k).at_ = 6
                  · have CT := Lib.hid (turn_no HS AS hlt3 HT.out h6)
                    obtain ⟨hx, he, hr⟩ := HO.out.ends hL12 hlt3 h6
                    have HOV := Lib.hid (or_over h6 he)
                    obtain ⟨y, hy⟩ : ∃ y : Nat, (A k).addr = (y : Int) := ⟨(A k).addr.toNat, by omega⟩
                    have HFY := Lib.hid (HME.out.new HO.out hlt3 h6 hy)
                    have HMN := Lib.hid (HME.out.next h6 hy)
                    obtain ⟨hcl, hch⟩ := or_chain hx hr
                    have HPL := Lib.hid (show ∃ lb off, lo = some ⟨lb, off, none⟩ ∧ w6.cell? ⟨lb, off + k, none⟩ = some (.pointer (some ⟨B k, 0, none⟩)) from HPR.out w6 (Kept.refl _ _) k hlt3)
                    rw [hy] at HOV hx hch hcl
                    have HOP := Lib.hid (show gotV 0 orL (y : Int) = .agg #[.int .i64 ((y : Int) % 2), .int .i64 ((y : Int) / 2), .bool true] from gotV_yes (ofB_iff.2 ⟨orL_good, by omega⟩))
                    have HZ := Lib.hid (ZZ.out ((y : Int) / 2) (by omega))
                    have HCH := Lib.hid hch
                    have y64 : y < 64 := by omega
                    have y0 : (y : Int) < 64 := by omega
                    have y1 : ¬ (y : Int) < 0 := by omega
                    clear h6 he hr hy hch hx
                    have CHA := Lib.hid (fun W (hb : Below W1.heap.size W1 W) => refChain_any 0 (some ⟨w.heap.size + 1 + 1, 0, none⟩) 2 orL (y : Int) W (HC1.out.below hb) few_or)
                    have COF := Lib.hid (fun W (hb : Below W1.heap.size W1 W) => refOf_any 0 (some ⟨w.heap.size + 1 + 1, 0, none⟩) 2 orL (y : Int) W (HC1.out.below hb) few_or)
                    generalize chainR 0 orL (y : Int) = C at *
                    have HCL := Lib.hid hcl
                    clear hcl
                    subst hlo
                    have HPP := Lib.hid (fun W (hk : Kept X w6 W) => two_cells (below_heap (HBW.out W hk) HP1.out))
                    have HPQ := Lib.hid (fun W (hk : Kept X w6 W) => HPR.out W hk k hlt3)
                    go_wp2_with (first
                      | (go_at_call 15; refine (CHA.out _ BX6.out).mono ?_; rintro e v7 ⟨co, cc, rfl, hN7, hb7⟩; have N7 := Lib.hid hN7; have D7 := Lib.hid (D6.out.trans (hb7.mono D6.out.size)); have G7 := Lib.hid (below_heap hb7 G6.out); clear hN7 hb7)
                      | (go_at_call 16; refine (COF.out _ (HBW.out _ (K4.out.setCell (p := ⟨w7.heap.size, y, none⟩) hmx (.bool true)))).mono ?_; rw [HOP.out]; rintro e v6 ⟨rfl, hb6⟩; have D6 := Lib.hid (hb6.trans ((below_new v6 (.cells #[.int .i64 ((y : Int) % 2), .int .i64 ((y : Int) / 2), .bool true] 51)).mono hb6.size)); have K6 := Lib.hid ((K4.out.setCell (p := ⟨w7.heap.size, y, none⟩) hmx (.bool true)).below hb6); have BX6 := Lib.hid (HBW.out _ (K6.out.below (below_new v6 (.cells #[.int .i64 ((y : Int) % 2), .int .i64 ((y : Int) / 2), .bool true] 51)))); have G6 := Lib.hid (heap_alloc_new v6 (.cells #[.int .i64 ((y : Int) % 2), .int .i64 ((y : Int) / 2), .bool true] 51)); clear p0 p1; obtain ⟨p0, p1, _, _⟩ := HPP.out v6 K6.out; have pl := block_lt_of_cell p0; clear hb6)
                      | (go_at_call 14; refine (ma_over AS (TT.out b nb) hlt3 T3.out).mono ?_; rw [HOV.out.1, HOV.out.2.1, HOV.out.2.2]; rintro e v4 ⟨rfl, hs4, hb4⟩; have T4 := Lib.hid hs4; have K4 := Lib.hid (K3.out.below hb4); have H4 := Lib.hid (below_heap hb4 H3.out); have m0 : v4.cell? ⟨w7.heap.size, y, none⟩ = some (.bool false) := (by rw [cell_of H4.out y, metC_get f y64, HFY.out]); have m1 := free_of H4.out y; have m2 := lt_of_block H4.out; obtain ⟨p0, p1, _, _⟩ := HPP.out v4 K4.out; clear hs4 hb4)
                      | (go_at_call 22; refine CT.out.mono ?_; rintro e v3 ⟨rfl, hs3, hk3⟩; have T3 := Lib.hid hs3; have K3 := Lib.hid (HK3.out.trans (hk3.mono (fun j h => .inl h))); have H3 := Lib.hid (hk3.heap (b := w7.heap.size) (.inr rfl) HH.out); obtain ⟨lb3, lof3, hlo3, hpc3⟩ := HPQ.out v3 K3.out; obtain ⟨rfl, rfl⟩ : lb3 = lb ∧ lof3 = lof := (by have h9 := Option.some.inj hlo3; injection h9 with h91 h92; exact ⟨h91.symm, h92.symm⟩); have hlb3 := block_lt_of_cell hpc3; clear hs3 hk3 hlo3))
                    have T9 := Lib.hid (T4.out.store (TT.out b nb) (TM.out B L.length) (q := w7.heap.size) (.inr rfl) y (.bool true))
                    have K9 := Lib.hid (K4.out.setCell (p := ⟨w7.heap.size, y, none⟩) hmx (.bool true))
                    have H9 := Lib.hid (show (v4.setCell ⟨w7.heap.size, y, none⟩ (.bool true)).heap[w7.heap.size]? = some (.cells (metC (fun z => if z = y then true else f z)) 66 (0, 0)) from by
                      rw [← metC_put f y64]
                      exact heap_setCell_same v4 w7.heap.size y (metC f) _ (.bool true) H4.out)
                    have S7 := Lib.hid (T9.out.left.below (TT.out b nb) D7.out)
                    have hC2 : (C.length : Int) ≤ 2 := by have := HCL.out; omega
                    generalize hv8 : v4.setCell ⟨w7.heap.size, y, none⟩ (.bool true) = v8 at *
                    clear hv8 m0 m1 m2 p0 p1 pl T3 K3 H3 T4 K4 H4 K6 BX6 D6 G6 CT CHA COF HOV HOP HFY HPP HPQ
                    go_loopw [20] (fun i wv => ∃ j : Nat, i = .int .i64 j ∧ j ≤ C.length ∧ Hid (Below v7.heap.size v7 wv)) (fun i _ => C.length - (intOf i).toNat)
                    case atStart => exact ⟨0, rfl, Nat.zero_le _, Lib.hid (Below.refl _ _)⟩
                    case round =>
                      obtain ⟨j, rfl, hj, HB5⟩ := hrel
                      by_cases hlt5 : j < C.length
                      · obtain ⟨⟨ck, cof, hco, hcell⟩, _⟩ := N7.out.1 j hlt5
                        subst hco
                        obtain ⟨q, hq16, hq, hre, hrs⟩ := HCH.out j hlt5
                        rw [hq] at hcell
                        have HRE := Lib.hid hre
                        have HRS := Lib.hid hrs
                        have HQ16 := Lib.hid hq16
                        have j0 : (j : Int) < (C.length : Int) := by omega
                        have j1 : (0 : Int) ≤ (j : Int) := by omega
                        have C0 := Lib.hid (show wr.cell? ⟨ck, cof + j, none⟩ = some (.int .i64 (q : Int)) ∧ wr.cell? ⟨v6.heap.size, 1, none⟩ = some (.int .i64 ((y : Int) / 2)) from duo_keep2 (And.intro hcell (cell_of G7.out 1)) HB5.out)
                        have HT5 := Lib.hid (S7.out.below (TT.out b nb) HB5.out)
                        clear hcell hre hrs hq hq16
                        obtain ⟨bk, off, hao, c0w⟩ := HF.out k hlt3
                        subst hao
                        have HTX := Lib.hid (txtO_at hlt3)
                        have HSR := Lib.hid (show wr.cell? ⟨bk, off + k, none⟩ = some (.string L[k]) from cellB (D7.out.trans (HB5.out.mono D7.out.size)) (Nat.lt_of_lt_of_le (Nat.lt_of_lt_of_le (block_lt_of_cell c0w) HW1.out.size) (HBW.out _ K9.out).size) (cellB (HBW.out _ K9.out) (Nat.lt_of_lt_of_le (block_lt_of_cell c0w) HW1.out.size) (cellB HW1.out (block_lt_of_cell c0w) c0w)))
                        have H500 := Lib.hid (HSZ.out k hlt3)
                        clear c0w
                        generalize L[k] = r at *
                        go_wp2_with fail
                        go_region_held3 (fun W => W.cell? ⟨ck, cof + j, none⟩ = some (.int .i64 (q : Int)) ∧ W.cell? ⟨v6.heap.size, 1, none⟩ = some (.int .i64 ((y : Int) / 2)))
                          (first | exact C0.out | exact duo_keep2 (by assumption) hb5 | exact duo_keep2 (by assumption) hb6 | exact duo_keep2 (by assumption) hb7 | exact duo_keep2 (by assumption) hb8)
                          (first
                            | (go_at_call 20; refine (RD bu pb F6 q7 _ ((y : Int) / 2) P7.out HZ.out).mono ?_; rw [HRE.out, HRS.out, HTX.out]; rintro e q8 ⟨rfl, hb8⟩; have R8 := Lib.hid (R7.out.trans (hb8.mono R7.out.size)))
                            | (go_at_call 19; refine (sa_pages HS P6.out).mono ?_; rintro e q7 ⟨rfl, hf7, hb7⟩; have P7 := Lib.hid hf7; have R7 := Lib.hid (R6.out.trans (hb7.mono R6.out.size)); clear hf7)
                            | (go_at_call 18; refine (sa_unit HS S5.out (i := q) HQ16.out).mono ?_; rintro e q6 ⟨bu, pb, rfl, hb6, F6, hf6⟩; have P6 := Lib.hid hf6; have R6 := Lib.hid (R5.out.trans (hb6.mono R5.out.size)); clear hf6)
                            | (go_at_call 17; refine (sa_nodes HS (HT5.out.below (TT.out b nb) ((Below.refl _ _).drew))).mono ?_; rintro e q5 ⟨rfl, hs5, hb5⟩; have S5 := Lib.hid hs5; have R5 := Lib.hid (show Below wr.heap.size wr q5 from ((Below.refl wr.heap.size wr).drew).trans hb5); clear hs5))
                        all_goals
                          have c8 : q8.cell? ⟨bk, off + k, none⟩ = some (.string r) := cellB R8.out (block_lt_of_cell HSR.out) HSR.out
                          have hbk8 := block_lt_of_cell c8
                          have u8 : IntKind.u8.wrap (k : Int) = (k : Int) := u8_small k (by omega)
                          have hcv : (convert 22 9 (.slice (some ⟨q8.heap.size, 0, none⟩) 1 1)).run Tryz.prog (q8.alloc (.cells #[.int .u8 (k : Int)] 5)).drew = .ok (.string (strOfNums [(k : Int)])) (q8.alloc (.cells #[.int .u8 (k : Int)] 5)).drew := conv_one k q8.drew
                          have hcc : ¬ 9223372036854775807 < (strOfNums [(k : Int)]).size + r.size := by
                            have h3 := H500.out
                            rw [HTX.out, ByteArray.size_append] at h3
                            omega
                          have D8 := Lib.hid (HB5.out.trans (R8.out.mono HB5.out.size))
                          clear C0
                          go_wp2_with fail
                          go_region_held_law (fun W => W.cell? ⟨bk, off + k, none⟩ = some (.string r)) (first | exact c8 | exact cellB (below_new q8 _) hbk8 c8) (fail)
                          all_goals
                            go_wp2_with fail
                            exact ⟨⟨j + 1, by go_num, by omega, Lib.hid ((D8.out.alloc D8.out.size _).drew)⟩, by simp [intOf]; omega⟩
                      · obtain rfl : j = C.length := by omega
                        go_wp2_with fail
                        have D9 := Lib.hid (D7.out.trans (HB5.out.mono D7.out.size))
                        exact ⟨⟨k + 1, h, A, fun z => if z = y then true else f z, by go_num, by omega, HO, Lib.hid (T9.out.below (TT.out b nb) (TM.out B L.length) D9.out), Lib.hid (K9.out.below D9.out), Lib.hid (below_heap D9.out H9.out), HMN⟩, by simp [intOf]; omega⟩
                  · have CT := Lib.hid (turn_yes HS AS hlt3 HT.out h6 (HO.out.small hL12 hlt3 (HSZ.out k hlt3) h6) (by rw [HO.out.used]; exact or_used))
                    have HO2 := Lib.hid (or_turn HO.out hL12 hlt3 (HSZ.out k hlt3) h6)
                    clear h6
                    subst hlo
                    go_wp2_with (go_at_call 22; refine CT.out.mono ?_; rintro e v3 ⟨rfl, hs3, hk3⟩; have T3 := Lib.hid hs3; have K3 := Lib.hid (HK3.out.trans (hk3.mono (fun j h => .inl h))); have H3 := Lib.hid (hk3.heap (b := w7.heap.size) (.inr rfl) HH.out); clear hs3 hk3)
                    exact ⟨⟨t + 1, _, _, by go_num, by rw [putA_at]; have := HO2.out.2; omega, Lib.hid HO2.out.1, T3, K3, H3, Lib.hid (HME.out.put _)⟩, by simp [intOf]; omega⟩
              · obtain rfl : k = L.length := by omega
                have HB3 := Lib.hid (HBW.out _ HK3.out)
                go_wp2_with (go_at_call 7; refine (CW.out _).mono ?_; rintro e w9 ⟨rfl, hb9⟩; have B9 := Lib.hid (HB3.out.trans (hb9.mono HB3.out.size)); clear hb9)
                go_ret
                exact ⟨rfl, HW1.out.trans (B9.out.mono HW1.out.size)⟩
      · have hLn : ¬ (0 : Int) < (L.length : Int) := by omega
        have hLz : ¬ 0 < L.length := hM
        go_wp2_with fail
        go_loopw [11] (fun i wv => i = .int .i64 0 ∧ Hid (Below w6.heap.size w6 wv)) (fun _ _ => 0)
        case atStart => exact ⟨rfl, Lib.hid (Below.refl _ _)⟩
        case round =>
          obtain ⟨rfl, HB6⟩ := hrel
          by_cases hd0 : 0 < d.length
          · have hd1 : (0 : Int) < (d.length : Int) := by omega
            go_wp2_with fail
            go_loopw [13] (fun i wv => i = .int .i64 0 ∧ Hid (Below w6.heap.size w6 wv)) (fun _ _ => 0)
            case atStart => exact ⟨rfl, Lib.hid (HB6.out.alloc HB6.out.size _)⟩
            case round =>
              obtain ⟨rfl, HB7⟩ := hrel
              have HB3 := Lib.hid (HB.out.trans (HB7.out.mono HB.out.size))
              go_wp2_with (go_at_call 7; refine (CW.out _).mono ?_; rintro e w9 ⟨rfl, hb9⟩; have B9 := Lib.hid (HB3.out.trans (hb9.mono HB3.out.size)); clear hb9)
              go_ret
              exact ⟨rfl, HW1.out.trans (B9.out.mono HW1.out.size)⟩
          · have hd1 : ¬ (0 : Int) < (d.length : Int) := by omega
            go_wp2_with fail
            go_loopw [13] (fun i wv => i = .int .i64 0 ∧ Hid (Below w6.heap.size w6 wv)) (fun _ _ => 0)
            case atStart => exact ⟨rfl, Lib.hid (HB6.out.alloc HB6.out.size _)⟩
            case round =>
              obtain ⟨rfl, HB7⟩ := hrel
              have HB3 := Lib.hid (HB.out.trans (HB7.out.mono HB.out.size))
              go_wp2_with (go_at_call 7; refine (CW.out _).mono ?_; rintro e w9 ⟨rfl, hb9⟩; have B9 := Lib.hid (HB3.out.trans (hb9.mono HB3.out.size)); clear hb9)
              go_ret
              exact ⟨rfl, HW1.out.trans (B9.out.mono HW1.out.size)⟩

set_option maxRecDepth 100000 in
theorem appendOrder_lifted (os : Os) (started : os.Started) (H : Type) (enc : TypeId × Value → H) :
    ReturnsInHanded {} Tryz.checked os 4 .any (Rows.appendOrderSpec.pre6 enc Tryz.prog Tryz.f4 Rows.appendOrderRow.domain false) (Rows.appendOrderSpec.post enc Tryz.prog Tryz.f4 false true false false) := by
  refine returnsInHanded_of_change (C := Tryz.checked) own started (by kernel_rfl) Tryz.func4
    (ChangeSpec.witness6 (enc := enc) (C := Tryz.checked) false ⟨#[], #[.slice none 0 0, .slice none 0 0], []⟩ 8 (by kernel_rfl) (by kernel_rfl) (by kernel_rfl) (by kernel_rfl)) ?_
  intro W base args ds gs before hval0 hW hcnd _
  have hval : ∀ (j : Nat) t v, Tryz.f4.params[j]? = some t → args[j]? = some v → Value.okWide Tryz.prog W .any base t v := hval0
  have hW' := hW
  obtain ⟨p, q, hA0, hV, rfl, hfz, hnd⟩ := hW
  have hA : DataW.TrodAll enc Tryz.prog W 0 (fun _ => true) true Tryz.f4.params.toList args.toList ds p := hA0
  rw [Tryz.params4] at hA hval
  obtain ⟨v0, vs0, d0, ds0, p0, q0, hargs, rfl, rfl, h0, r0⟩ := trodAll_cons hA
  obtain ⟨v1, vs1, d1, ds1, p1, q1, rfl, rfl, rfl, h1, r1⟩ := trodAll_cons r0
  obtain ⟨rfl, rfl, rfl⟩ := trodAll_nil r1
  obtain rfl : args = #[v0, v1] := by cases args; simp_all
  obtain ⟨rfl, rfl⟩ := trodVars_none hV
  have k0 := h0
  have lt0 : ∀ x ∈ p0, x.block < W.heap.size := by obtain ⟨m, hm⟩ := k0; exact DataW.trod_lt m _ _ _ hm
  have k1 := h1
  have lt1 : ∀ x ∈ p1, x.block < W.heap.size := by obtain ⟨m, hm⟩ := k1; exact DataW.trod_lt m _ _ _ hm
  obtain ⟨ao0, cap0, L0, rfl, w0, hF0⟩ := open_strs Tryz.underlying62 Tryz.underlying9 (by kernel_rfl) (hval 0 62 v0 rfl rfl) h0
  obtain ⟨ao1, cap1, L1, rfl, w1, hR1, hK1, hn1, hc1⟩ := open_rows (f := byteC) (ok := byteOk) (n := 0) Tryz.underlying22 (by kernel_rfl) (fun m cs y hl hf => byte_cs Tryz.underlying5 hl hf) (hval 1 22 v1 rfl rfl) h1
  clear hA0 hval0
  refine (appendOrder_walk handSays appSays readSays ao0 cap0 L0 ao1 cap1 L1 w0 w1 W hF0 hR1 hK1).mono fun e W' ⟨he, bel⟩ => ?_
  subst he
  exact ⟨_, rfl, _, _, _, [], _, [], hW', trodAll_mk1 (shut_bool Tryz.underlying4 _), (trodAll_cons_mk (Below.trod laidOut (by kernel_rfl) (of_decide_eq_true (by kernel_rfl)) k0 bel lt0) (trodAll_cons_mk (Below.trod laidOut (by kernel_rfl) (of_decide_eq_true (by kernel_rfl)) k1 bel lt1) trodAll_mk0)), rfl, bel.frame _, fun h => by cases h⟩

theorem appendOrder_over : Rows.appendOrderRow.holds Tryz.pinned (OpenSpec.ofChange Rows.appendOrderSpec) :=
  OpenClaim.holds_of_wide 4 Tryz.f4 rfl rfl rfl rfl rfl rfl rfl ⟨rfl, rfl, rfl, rfl, rfl⟩ rfl rfl rfl rfl rfl (by kernel_rfl) Tryz.func4 (by kernel_rfl)
    (of_decide_eq_true (by kernel_rfl)) (by unfold Func.isWrapper; first | (rw [if_pos (by decide +kernel)]; kernel_rfl) | (rw [if_neg (by decide +kernel)]; exact ⟨rfl, rfl⟩))
    (fun os started H enc _ => appendOrder_lifted os started H enc)

/-- THE STATEMENT -/
theorem appendOrder_holds : Rows.AppendOrderSaid := appendOrder_over 
end Go.Proofs.YtimjlfkdbkafeaaGreat
