/- What the document's Only returns, at records of any kind: what its walks lean on. No conditions. What the document's Only returns, at records of the kinds 1 to 8. No conditions. -/
import Derived.Test.YthileemkiplodaaJOpB
import Derived.RegionTactic
import Derived.BigRegion
set_option linter.unusedVariables false
namespace Go.Proofs.Ythileemkiplodaa
open Go.RowKit
set_option maxRecDepth 20000

theorem rec_tells {fn : Func} {p : Tmp} (h : fn.results = #[.cell p 24]) {a : Act} {w w' : World} {g : Nat} {R : Rec} {ao : Option Addr} {cap : Nat}
    (hg : w'.heap[g]? = some (.cells (recA R (.slice ao R.moves.length cap)) 24 (0, 0))) (hp : a.tmps.getD p undef = .pointer (some ⟨g, 0, none⟩)) (hd : a.defers = [])
    (hv : VLI w' ao cap R.moves) (hb : Below w.heap.size w w') : bodyPost Try.prog fn (Tells w R) .ret a w' :=
  rec_ret h hg hp hd ⟨ao, cap, rfl, hv, hb⟩
theorem three_below (w : World) (x y z : Obj) : Below w.heap.size w (((w.alloc x).alloc y).alloc z) := (((Below.refl _ _).alloc (Nat.le_refl _) _).alloc (by simp) _).alloc (by simp; omega) _
theorem hv_drew {w : World} {ao : Option Addr} {cap : Nat} {L : List Mv} (h : VLI w ao cap L) : VLI w.drew ao cap L := h
end Go.Proofs.Ythileemkiplodaa
namespace Go.Proofs.Ythileemkiplodaa
open Go.RowKit
set_option maxRecDepth 20000

set_option maxRecDepth 100000 in
set_option maxHeartbeats 4000000 in
theorem only_1 (o : Rec) (ao : Option Addr) (cap : Nat) (w : World) (hv : VLI w ao cap o.moves) (hk : o.kind = 1) :
    Calls Try.prog 19 #[.agg (recA o (.slice ao o.moves.length cap))] w (Tells w (onlyR o)) := by
  have HV := Lib.hid (fun x y z => hv.below (three_below w x y z))
  rw [show onlyR o = ⟨o.client, o.seq, 1, o.path, ⟨#[]⟩, 0, 0, 0, ⟨#[]⟩, 0, 0, []⟩ from by simp [onlyR, hk, rec0]]
  unfold recA
  rw [hk]
  clear hk hv
  go_enter Try.func19, Try.ntmps19
  go_wp2
  refine rec_tells (ao := none) (cap := 0) (R := ⟨o.client, o.seq, 1, o.path, ⟨#[]⟩, 0, 0, 0, ⟨#[]⟩, 0, 0, []⟩) rfl (second_heap w _ _ _) rfl rfl ⟨VL.nil _ _, fun _ => rfl⟩ (three_below w _ _ _)
set_option maxRecDepth 100000 in
set_option maxHeartbeats 4000000 in
theorem only_2 (o : Rec) (ao : Option Addr) (cap : Nat) (w : World) (hv : VLI w ao cap o.moves) (hk : o.kind = 2) :
    Calls Try.prog 19 #[.agg (recA o (.slice ao o.moves.length cap))] w (Tells w (onlyR o)) := by
  have HV := Lib.hid (fun x y z => hv.below (three_below w x y z))
  rw [show onlyR o = ⟨o.client, o.seq, 2, o.path, ⟨#[]⟩, 0, 0, 0, ⟨#[]⟩, 0, 0, []⟩ from by simp [onlyR, hk, rec0]]
  unfold recA
  rw [hk]
  clear hk hv
  go_enter Try.func19, Try.ntmps19
  go_wp2
  refine rec_tells (ao := none) (cap := 0) (R := ⟨o.client, o.seq, 2, o.path, ⟨#[]⟩, 0, 0, 0, ⟨#[]⟩, 0, 0, []⟩) rfl (second_heap w _ _ _) rfl rfl ⟨VL.nil _ _, fun _ => rfl⟩ (three_below w _ _ _)
set_option maxRecDepth 100000 in
set_option maxHeartbeats 4000000 in
theorem only_3 (o : Rec) (ao : Option Addr) (cap : Nat) (w : World) (hv : VLI w ao cap o.moves) (hk : o.kind = 3) :
    Calls Try.prog 19 #[.agg (recA o (.slice ao o.moves.length cap))] w (Tells w (onlyR o)) := by
  have HV := Lib.hid (fun x y z => hv.below (three_below w x y z))
  rw [show onlyR o = ⟨o.client, o.seq, 3, o.path, ⟨#[]⟩, 0, 0, 0, ⟨#[]⟩, 0, 0, []⟩ from by simp [onlyR, hk, rec0]]
  unfold recA
  rw [hk]
  clear hk hv
  go_enter Try.func19, Try.ntmps19
  go_wp2
  refine rec_tells (ao := none) (cap := 0) (R := ⟨o.client, o.seq, 3, o.path, ⟨#[]⟩, 0, 0, 0, ⟨#[]⟩, 0, 0, []⟩) rfl (second_heap w _ _ _) rfl rfl ⟨VL.nil _ _, fun _ => rfl⟩ (three_below w _ _ _)
set_option maxRecDepth 100000 in
set_option maxHeartbeats 4000000 in
theorem only_4 (o : Rec) (ao : Option Addr) (cap : Nat) (w : World) (hv : VLI w ao cap o.moves) (hk : o.kind = 4) :
    Calls Try.prog 19 #[.agg (recA o (.slice ao o.moves.length cap))] w (Tells w (onlyR o)) := by
  have HV := Lib.hid (fun x y z => hv.below (three_below w x y z))
  rw [show onlyR o = ⟨o.client, o.seq, 4, o.path, o.dest, 0, 0, 0, ⟨#[]⟩, 0, 0, []⟩ from by simp [onlyR, hk, rec0]]
  unfold recA
  rw [hk]
  clear hk hv
  go_enter Try.func19, Try.ntmps19
  go_wp2
  go_region
  all_goals go_wp2
  all_goals refine rec_tells (ao := none) (cap := 0) (R := ⟨o.client, o.seq, 4, o.path, o.dest, 0, 0, 0, ⟨#[]⟩, 0, 0, []⟩) rfl (second_heap w _ _ _) rfl rfl ⟨VL.nil _ _, fun _ => rfl⟩ (three_below w _ _ _).drew
set_option maxRecDepth 100000 in
set_option maxHeartbeats 4000000 in
theorem only_5 (o : Rec) (ao : Option Addr) (cap : Nat) (w : World) (hv : VLI w ao cap o.moves) (hk : o.kind = 5) :
    Calls Try.prog 19 #[.agg (recA o (.slice ao o.moves.length cap))] w (Tells w (onlyR o)) := by
  have HV := Lib.hid (fun x y z => hv.below (three_below w x y z))
  rw [show onlyR o = ⟨o.client, o.seq, 5, o.path, ⟨#[]⟩, 0, 0, 0, ⟨#[]⟩, 0, 0, []⟩ from by simp [onlyR, hk, rec0]]
  unfold recA
  rw [hk]
  clear hk hv
  go_enter Try.func19, Try.ntmps19
  go_wp2
  refine rec_tells (ao := none) (cap := 0) (R := ⟨o.client, o.seq, 5, o.path, ⟨#[]⟩, 0, 0, 0, ⟨#[]⟩, 0, 0, []⟩) rfl (second_heap w _ _ _) rfl rfl ⟨VL.nil _ _, fun _ => rfl⟩ (three_below w _ _ _)
set_option maxRecDepth 100000 in
set_option maxHeartbeats 4000000 in
theorem only_6 (o : Rec) (ao : Option Addr) (cap : Nat) (w : World) (hv : VLI w ao cap o.moves) (hk : o.kind = 6) :
    Calls Try.prog 19 #[.agg (recA o (.slice ao o.moves.length cap))] w (Tells w (onlyR o)) := by
  have HV := Lib.hid (fun x y z => hv.below (three_below w x y z))
  rw [show onlyR o = ⟨o.client, o.seq, 6, o.path, o.dest, 0, 0, 0, ⟨#[]⟩, 0, 0, []⟩ from by simp [onlyR, hk, rec0]]
  unfold recA
  rw [hk]
  clear hk hv
  go_enter Try.func19, Try.ntmps19
  go_wp2
  go_region
  all_goals go_wp2
  all_goals refine rec_tells (ao := none) (cap := 0) (R := ⟨o.client, o.seq, 6, o.path, o.dest, 0, 0, 0, ⟨#[]⟩, 0, 0, []⟩) rfl (second_heap w _ _ _) rfl rfl ⟨VL.nil _ _, fun _ => rfl⟩ (three_below w _ _ _).drew
set_option maxRecDepth 100000 in
set_option maxHeartbeats 4000000 in
theorem only_7 (o : Rec) (ao : Option Addr) (cap : Nat) (w : World) (hv : VLI w ao cap o.moves) (hk : o.kind = 7) :
    Calls Try.prog 19 #[.agg (recA o (.slice ao o.moves.length cap))] w (Tells w (onlyR o)) := by
  have HV := Lib.hid (fun x y z => hv.below (three_below w x y z))
  rw [show onlyR o = ⟨o.client, o.seq, 7, o.path, ⟨#[]⟩, o.size, 0, 0, ⟨#[]⟩, 0, 0, []⟩ from by simp [onlyR, hk, rec0]]
  unfold recA
  rw [hk]
  clear hk hv
  go_enter Try.func19, Try.ntmps19
  go_wp2
  go_region
  all_goals go_wp2
  all_goals refine rec_tells (ao := none) (cap := 0) (R := ⟨o.client, o.seq, 7, o.path, ⟨#[]⟩, o.size, 0, 0, ⟨#[]⟩, 0, 0, []⟩) rfl (second_heap w _ _ _) rfl rfl ⟨VL.nil _ _, fun _ => rfl⟩ (three_below w _ _ _).drew
set_option maxRecDepth 100000 in
set_option maxHeartbeats 4000000 in
theorem only_8 (o : Rec) (ao : Option Addr) (cap : Nat) (w : World) (hv : VLI w ao cap o.moves) (hk : o.kind = 8) :
    Calls Try.prog 19 #[.agg (recA o (.slice ao o.moves.length cap))] w (Tells w (onlyR o)) := by
  have HV := Lib.hid (fun x y z => hv.below (three_below w x y z))
  rw [show onlyR o = ⟨o.client, o.seq, 8, o.path, ⟨#[]⟩, 0, 0, 0, ⟨#[]⟩, 0, 0, []⟩ from by simp [onlyR, hk, rec0]]
  unfold recA
  rw [hk]
  clear hk hv
  go_enter Try.func19, Try.ntmps19
  go_wp2
  refine rec_tells (ao := none) (cap := 0) (R := ⟨o.client, o.seq, 8, o.path, ⟨#[]⟩, 0, 0, 0, ⟨#[]⟩, 0, 0, []⟩) rfl (second_heap w _ _ _) rfl rfl ⟨VL.nil _ _, fun _ => rfl⟩ (three_below w _ _ _)
end Go.Proofs.Ythileemkiplodaa
