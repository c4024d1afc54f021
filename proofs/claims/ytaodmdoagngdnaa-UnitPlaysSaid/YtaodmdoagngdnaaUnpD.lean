/- What the program's unit answers a question to its pages. Conditions: it and the question lie where the call was told; the question's data are not too long. (Written by gen/genunpb.py.) -/
import Derived.Test.YtaodmdoagngdnaaUnpB
import Derived.Deep.RegionHeld3
namespace Go.Proofs.Ytaodmdoagngdnaa
set_option linter.unusedVariables false
open Go.RowKit
set_option maxRecDepth 20000
set_option maxHeartbeats 8000000 in
theorem un_seal (b q : Nat) (G : Nat → Prop) (w : World) (u : Us) (a : Ak) (h : UM b q G w u) (hw : i64w a.epoch) :
    Calls Try.prog 44 #[ptrV b, askV a] w fun e w' => e = .returned (anV 0 u.p.tail noS 0) ∧ Leaves (UM b q) G w w' ⟨u.p, a.epoch, u.down⟩ := by
  obtain ⟨k, un, ep, pg, sz, n, s, pe, L, ao, cap⟩ := a
  obtain ⟨p, ue, dn⟩ := u
  simp only at *
  have HS := Lib.hid (boxed_start (um_thing b q) h #[.int .i64 k, .int .i64 un, .int .i64 ep, .int .i64 pg, .int .i64 sz, .int .i64 n, .string s, .int .i64 pe, .slice ao L.length cap])
  unfold zeroAn at HS
  have hbw := h.small
  obtain ⟨c0, c1, c2, f0, f1, f2⟩ := three_cells h.cells
  obtain ⟨H, hH, hU⟩ := HS.out.use
  have HE := hU _ _ (hH.seal hw)
  rw [World.setCell_alloc_past (hn := by simp; omega), World.setCell_alloc_past (hn := hbw)] at HE
  replace HE := Lib.hid HE
  obtain ⟨H2, hH2, _⟩ := HE.out.use
  obtain ⟨F, hF, hok, _⟩ := hH2.ready
  clear h hU hH hH2
  show Calls _ _ #[.pointer (some ⟨b, 0, none⟩), .agg #[.int .i64 k, .int .i64 un, .int .i64 ep, .int .i64 pg, .int .i64 sz, .int .i64 n, .string s, .int .i64 pe, .slice ao L.length cap]] w _
  go_enter Try.func44, Try.ntmps44
  go_wp2_with (first | (go_at_call 21; refine (ptail_any F _ q p hF hok).mono ?_; rintro e w2 ⟨rfl, hb2⟩; have HT3 := Lib.hid (HE.out.below (um_thing b q) hb2); clear hb2; obtain ⟨nl1, nl2⟩ := HT3.out.small; obtain ⟨⟨ny0, ny1, ny2, ny3, ny4, ny5, ny6, ny7⟩, nfy0, nfy1, nfy2, nfy3, nfy4, nfy5, nfy6, nfy7⟩ := eight_cells HT3.out.ans))
  exact ans_ret (x := anP 0 p.tail noS 0) (ao := none) (cap := 0) rfl (HT3.out.fin (um_thing b q)).1 rfl rfl ⟨rfl, (HT3.out.fin (um_thing b q)).2⟩
end Go.Proofs.Ytaodmdoagngdnaa
