/- Stage 20: what the statements' own Own returns: the same inodes, the document's, in memory of their own. Conditions: the inodes lie where the call was told. -/
import Derived.Test.YtfkgeefoknaldaaG35a
set_option linter.unusedVariables false
namespace Go.Proofs.Ytfkgeefoknaldaa
open Go.RowKit Go.Maps
set_option linter.unusedVariables false
set_option maxRecDepth 20000
theorem six_on {W W' : World} {g : Nat} {a b c d e f : Value} (h : W.cell? ⟨g, 0, none⟩ = some a ∧ W.cell? ⟨g, 1, none⟩ = some b ∧ W.cell? ⟨g, 2, none⟩ = some c ∧ W.cell? ⟨g, 3, none⟩ = some d ∧ W.cell? ⟨g, 4, none⟩ = some e ∧ W.cell? ⟨g, 5, none⟩ = some f) (hb : Below (g + 1) W W') :
    W'.cell? ⟨g, 0, none⟩ = some a ∧ W'.cell? ⟨g, 1, none⟩ = some b ∧ W'.cell? ⟨g, 2, none⟩ = some c ∧ W'.cell? ⟨g, 3, none⟩ = some d ∧ W'.cell? ⟨g, 4, none⟩ = some e ∧ W'.cell? ⟨g, 5, none⟩ = some f :=
  ⟨cellB hb (Nat.lt_succ_self _) h.1, cellB hb (Nat.lt_succ_self _) h.2.1, cellB hb (Nat.lt_succ_self _) h.2.2.1, cellB hb (Nat.lt_succ_self _) h.2.2.2.1, cellB hb (Nat.lt_succ_self _) h.2.2.2.2.1, cellB hb (Nat.lt_succ_self _) h.2.2.2.2.2⟩
theorem six_al {W : World} {g : Nat} {a b c d e f : Value} (h : W.cell? ⟨g, 0, none⟩ = some a ∧ W.cell? ⟨g, 1, none⟩ = some b ∧ W.cell? ⟨g, 2, none⟩ = some c ∧ W.cell? ⟨g, 3, none⟩ = some d ∧ W.cell? ⟨g, 4, none⟩ = some e ∧ W.cell? ⟨g, 5, none⟩ = some f) (o : Obj) :
    (W.alloc o).cell? ⟨g, 0, none⟩ = some a ∧ (W.alloc o).cell? ⟨g, 1, none⟩ = some b ∧ (W.alloc o).cell? ⟨g, 2, none⟩ = some c ∧ (W.alloc o).cell? ⟨g, 3, none⟩ = some d ∧ (W.alloc o).cell? ⟨g, 4, none⟩ = some e ∧ (W.alloc o).cell? ⟨g, 5, none⟩ = some f :=
  six_on h ((blwA W o).mono (block_lt_of_cell h.1))
theorem six_dr {W : World} {g : Nat} {a b c d e f : Value} (h : W.cell? ⟨g, 0, none⟩ = some a ∧ W.cell? ⟨g, 1, none⟩ = some b ∧ W.cell? ⟨g, 2, none⟩ = some c ∧ W.cell? ⟨g, 3, none⟩ = some d ∧ W.cell? ⟨g, 4, none⟩ = some e ∧ W.cell? ⟨g, 5, none⟩ = some f) :
    W.drew.cell? ⟨g, 0, none⟩ = some a ∧ W.drew.cell? ⟨g, 1, none⟩ = some b ∧ W.drew.cell? ⟨g, 2, none⟩ = some c ∧ W.drew.cell? ⟨g, 3, none⟩ = some d ∧ W.drew.cell? ⟨g, 4, none⟩ = some e ∧ W.drew.cell? ⟨g, 5, none⟩ = some f := h
theorem six_hp {W W' : World} {g : Nat} {a b c d e f : Value} (h : W.cell? ⟨g, 0, none⟩ = some a ∧ W.cell? ⟨g, 1, none⟩ = some b ∧ W.cell? ⟨g, 2, none⟩ = some c ∧ W.cell? ⟨g, 3, none⟩ = some d ∧ W.cell? ⟨g, 4, none⟩ = some e ∧ W.cell? ⟨g, 5, none⟩ = some f) (hb : W'.heap[g]? = W.heap[g]?) :
    W'.cell? ⟨g, 0, none⟩ = some a ∧ W'.cell? ⟨g, 1, none⟩ = some b ∧ W'.cell? ⟨g, 2, none⟩ = some c ∧ W'.cell? ⟨g, 3, none⟩ = some d ∧ W'.cell? ⟨g, 4, none⟩ = some e ∧ W'.cell? ⟨g, 5, none⟩ = some f := by
  simpa [World.cell?, hb] using h
set_option maxHeartbeats 1000000 in
theorem own_any (lo : Option Addr) (cap : Nat) (l : List Iv) (w : World) (h : IvQ w lo l) (hl : l.length ≤ 100000) (hq : ∀ y ∈ l, y.x.parts.length ≤ 100000) :
    Calls Try.prog 20 #[.slice lo l.length cap] w fun e w' => ∃ v l', e = .returned v ∧ l'.map (·.x) = l.map (·.x) ∧ DRowT 72 w' w.heap.size v l' ∧ Below w.heap.size w w' := by
  have HL := Lib.hid h
  have HQ := Lib.hid hq
  have hlI : (l.length : Int) ≤ 100000 := by omega
  clear h hq
  go_enter Try.func20, Try.ntmps20
  go_wp2_with fail
  go_loopw [3, 4] (fun v x wr => ∃ (k : Nat) (l' : List Iv), x = .int .i64 k ∧ k ≤ l.length ∧ l'.map (·.x) = (l.take k).map (·.x) ∧ Hid (DRowT 72 wr w.heap.size v l') ∧ Hid (Below w.heap.size w wr)) (fun _ x _ => l.length - (intOf x).toNat)
  case atStart => exact ⟨0, [], rfl, Nat.zero_le _, rfl, Lib.hid (DRowT.nil _ _ _), Lib.hid (Below.refl _ _)⟩
  case round =>
    obtain ⟨k, l', rfl, hk, hm0, HR, HB⟩ := hrel
    have HM := Lib.hid hm0
    have hlen' : l'.length = k := by
      have := congrArg List.length hm0
      rw [List.length_map, List.length_map, List.length_take] at this
      omega
    clear hm0
    by_cases hlt : k < l.length
    · have k0 : (k : Int) < (l.length : Int) := by omega
      have HLr := Lib.hid (HL.out.below HB.out)
      obtain ⟨bk, off, hlo, z0, z1, z2, z3, z4, z5⟩ := HLr.out.at k hlt
      subst hlo
      have hmem : l[k] ∈ l := List.getElem_mem hlt
      have HS := Lib.hid (show (l' ++ [l[k]]).map (·.x) = (l.take (k + 1)).map (·.x) from by
        rw [List.map_append, HM.out, List.take_succ_eq_append_getElem hlt, List.map_append])
      have hyP := HLr.out.parts _ hmem
      have hyq := HQ.out _ hmem
      generalize l[k] = y at *
      have HX0 := Lib.hid (ino_cells (heap_alloc_new wr (inoO y)))
      have HPA := Lib.hid (PaL.below hyP.1 (blwA wr (inoO y)))
      have HPN := Lib.hid hyP.2.1
      have HPC := Lib.hid hyP.2.2
      have HBA := Lib.hid (blwO (blwA wr (inoO y)) HB.out)
      have HRA := Lib.hid (HR.out.below (blwA wr (inoO y)))
      have HSZ := Lib.hid (show wr.heap.size + 1 = (wr.alloc (inoO y)).heap.size from by simp)
      have HL0 := Lib.hid (show l'.length + 1 ≤ 1000000 from by omega)
      have HLP := Lib.hid (show ([] : List Pt).length + y.x.parts.length ≤ 1000000 from by simp; omega)
      clear hyP hyq hmem
      go_wp2_with fail
      obtain ⟨gb, hgb⟩ : ∃ gb, wr.heap.size = gb := ⟨_, rfl⟩
      rw [hgb] at HX0 HSZ ⊢
      have s0 := HX0.out
      generalize wr.alloc (inoO y) = W0 at *
      clear z0 z1 z2 z3 z4 z5
      go_region_held3 (fun W => W.cell? ⟨gb, 0, none⟩ = some (.int .i64 y.x.ino) ∧ W.cell? ⟨gb, 1, none⟩ = some (.int .i64 y.x.kind) ∧ W.cell? ⟨gb, 2, none⟩ = some (.int .i64 y.x.links) ∧ W.cell? ⟨gb, 3, none⟩ = some (.int .i64 y.x.opens) ∧ W.cell? ⟨gb, 4, none⟩ = some (.int .i64 y.x.size) ∧ W.cell? ⟨gb, 5, none⟩ = some (.slice y.ao y.x.parts.length y.cap))
        (first | with_reducible exact s0 | with_reducible exact six_dr s0 | with_reducible exact six_al s0 _ | with_reducible exact six_dr (six_al s0 _) | with_reducible exact s3 | with_reducible exact six_al s3 _ | with_reducible exact s5 | (trace "KEEP"; trace_state; fail))
        (first
          | (have H3' := HO3.out; refine step_app_rows iv_rows rfl (.tmp 16) (.tmp 32) rfl (B := w.heap.size) (v := u3) (D := l') rfl (OR.below HD3.out.row (blwA w3 (.cells #[.int .i64 y.x.ino, .int .i64 y.x.kind, .int .i64 y.x.links, .int .i64 y.x.opens, .int .i64 y.x.size, .slice ao3 y.x.parts.length cp3] 72 (0, 0)))) (ao := some ⟨w3.heap.size, 0, none⟩) (cap := 1) (l := [⟨y.x, ao3, cp3⟩]) (m := 1) rfl rfl (Row.one (f := ivC) (heap_alloc_new _ _)) (fun e => by cases e) (Nat.le_refl _) HL0.out (by have := HB3.out.size; simp; omega) ?_; intro v5 w5 hI hg hv; have HD5 := Lib.hid (DRowT.snoc (y := ⟨y.x, ao3, cp3⟩) (HD3.out.below (blwA w3 (.cells #[.int .i64 y.x.ino, .int .i64 y.x.kind, .int .i64 y.x.links, .int .i64 y.x.opens, .int .i64 y.x.size, .slice ao3 y.x.parts.length cp3] 72 (0, 0)))) (OR.below HO3.out (blwA _ _)) HN3.out hI hg hv); have HB5 := Lib.hid ((blwO (blwA w3 _) HB3.out).grown hg (by have := HB3.out.size; simp; omega) (fun k e => (HD3.out.row.lt k e).1)); have s5 := six_hp (six_al s3 (.cells #[.int .i64 y.x.ino, .int .i64 y.x.kind, .int .i64 y.x.links, .int .i64 y.x.opens, .int .i64 y.x.size, .slice ao3 y.x.parts.length cp3] 72 (0, 0))) (hg.block gb (by have := HG3.out; simp; omega) (fun e => by have h8 := (HR.out.row.lt _ e.symm).2; omega)); clear hI hg hv H3')
          | (refine step_app_rows par_rows rfl (.tmp 27) (.tmp 29) rfl (B := gb + 1) (v := .slice (some ⟨W0.heap.size, 0, none⟩) 0 0) (D := []) rfl (OR.below (OR.made W0 rfl (by have := HSZ.out; omega)) (Below.refl _ _).drew) (ao := y.ao) (cap := y.cap) (l := y.x.parts) (m := y.x.parts.length) rfl rfl (PaL.below HPA.out (blwA W0 _).drew) HPN.out HPC.out HLP.out (by have := HSZ.out; simp; omega) ?_; intro v3 w3 hI hg _; rw [List.nil_append] at hI; have hb3 : Below W0.heap.size W0 w3 := ((blwA W0 _).drew).grown hg (by simp) (fun k e => by cases e; exact Nat.le_refl _); have s3 := six_on s0 (hb3.mono (by have := HSZ.out; omega)); obtain ⟨ao3, cp3, hv3, _, _, _, hn3, hr3⟩ := OR.form par_rows hI; clear hr3; subst hv3; have HB3 := Lib.hid (blwO hb3 HBA.out); have HD3 := Lib.hid (HRA.out.below hb3); have HO3 := Lib.hid (show OPa w3 w.heap.size (.slice ao3 y.x.parts.length cp3) y.x.parts from OR.lower hI (by have := HBA.out.size; have := HSZ.out; have := HB.out.size; omega)); have HN3 := Lib.hid (show ∀ a, ao3 = some a → u3.ownBlock ≠ some a.block from fun a e e2 => by have h7 := (hn3 a e).1; have h8 := (HR.out.row.lt _ e2).2; omega); have HG3 := Lib.hid (show gb < w3.heap.size from by have := hb3.size; have := HSZ.out; omega); clear hI hg hb3 hn3))
      go_wp2_with fail
      go_roundw
      case rel => exact ⟨k + 1, l' ++ [⟨y.x, ao3, cp3⟩], by go_num, by omega, by rw [← HS.out, List.map_append, List.map_append]; rfl, HD5, HB5⟩
      case measure => simp [intOf]; omega
    · obtain rfl : k = l.length := by omega
      go_wp2_with fail
      go_ret
      have hm := HM.out
      rw [List.take_length] at hm
      exact ⟨_, rfl, l', hm, HR.out, HB.out⟩
end Go.Proofs.Ytfkgeefoknaldaa
