/- What the document's Only returns, at records of the kinds 9 to 14, and of none. No conditions. -/
import Derived.Test.YthileemkiplodaaGk
import Derived.RegionTactic
import Derived.BigRegion
set_option linter.unusedVariables false
namespace Go.Proofs.Ythileemkiplodaa
open Go.RowKit
set_option maxRecDepth 20000

set_option maxRecDepth 100000 in
set_option maxHeartbeats 4000000 in
theorem only_9 (o : Rec) (ao : Option Addr) (cap : Nat) (w : World) (hv : VLI w ao cap o.moves) (hk : o.kind = 9) :
    Calls Try.prog 19 #[.agg (recA o (.slice ao o.moves.length cap))] w (Tells w (onlyR o)) := by
  have HV := Lib.hid (fun x y z => hv.below (three_below w x y z))
  rw [show onlyR o = ⟨o.client, o.seq, 9, ⟨#[]⟩, ⟨#[]⟩, 0, o.handle, 0, ⟨#[]⟩, 0, 0, []⟩ from by simp [onlyR, hk, rec0]]
  unfold recA
  rw [hk]
  clear hk hv
  go_enter Try.func19, Try.ntmps19
  go_wp2
  refine rec_tells (ao := none) (cap := 0) (R := ⟨o.client, o.seq, 9, ⟨#[]⟩, ⟨#[]⟩, 0, o.handle, 0, ⟨#[]⟩, 0, 0, []⟩) rfl (second_heap w _ _ _) rfl rfl ⟨VL.nil _ _, fun _ => rfl⟩ (three_below w _ _ _)
set_option maxRecDepth 100000 in
set_option maxHeartbeats 4000000 in
theorem only_10 (o : Rec) (ao : Option Addr) (cap : Nat) (w : World) (hv : VLI w ao cap o.moves) (hk : o.kind = 10) :
    Calls Try.prog 19 #[.agg (recA o (.slice ao o.moves.length cap))] w (Tells w (onlyR o)) := by
  have HV := Lib.hid (fun x y z => hv.below (three_below w x y z))
  rw [show onlyR o = ⟨o.client, o.seq, 10, ⟨#[]⟩, ⟨#[]⟩, 0, o.handle, o.off, o.data, 0, 0, []⟩ from by simp [onlyR, hk, rec0]]
  unfold recA
  rw [hk]
  clear hk hv
  go_enter Try.func19, Try.ntmps19
  go_wp2
  go_region
  all_goals go_wp2
  all_goals refine rec_tells (ao := none) (cap := 0) (R := ⟨o.client, o.seq, 10, ⟨#[]⟩, ⟨#[]⟩, 0, o.handle, o.off, o.data, 0, 0, []⟩) rfl (second_heap w _ _ _) rfl rfl ⟨VL.nil _ _, fun _ => rfl⟩ (three_below w _ _ _).drew
set_option maxRecDepth 100000 in
set_option maxHeartbeats 4000000 in
theorem only_11 (o : Rec) (ao : Option Addr) (cap : Nat) (w : World) (hv : VLI w ao cap o.moves) (hk : o.kind = 11) :
    Calls Try.prog 19 #[.agg (recA o (.slice ao o.moves.length cap))] w (Tells w (onlyR o)) := by
  have HV := Lib.hid (fun x y z => hv.below (three_below w x y z))
  rw [show onlyR o = ⟨o.client, o.seq, 11, ⟨#[]⟩, ⟨#[]⟩, 0, 0, 0, ⟨#[]⟩, o.tick, 0, []⟩ from by simp [onlyR, hk, rec0]]
  unfold recA
  rw [hk]
  clear hk hv
  go_enter Try.func19, Try.ntmps19
  go_wp2
  refine rec_tells (ao := none) (cap := 0) (R := ⟨o.client, o.seq, 11, ⟨#[]⟩, ⟨#[]⟩, 0, 0, 0, ⟨#[]⟩, o.tick, 0, []⟩) rfl (second_heap w _ _ _) rfl rfl ⟨VL.nil _ _, fun _ => rfl⟩ (three_below w _ _ _)
set_option maxRecDepth 100000 in
set_option maxHeartbeats 4000000 in
theorem only_12 (o : Rec) (ao : Option Addr) (cap : Nat) (w : World) (hv : VLI w ao cap o.moves) (hk : o.kind = 12) :
    Calls Try.prog 19 #[.agg (recA o (.slice ao o.moves.length cap))] w (Tells w (onlyR o)) := by
  have HV := Lib.hid (fun x y z => hv.below (three_below w x y z))
  rw [show onlyR o = ⟨o.client, o.seq, 12, ⟨#[]⟩, ⟨#[]⟩, 0, 0, 0, ⟨#[]⟩, o.tick, 0, []⟩ from by simp [onlyR, hk, rec0]]
  unfold recA
  rw [hk]
  clear hk hv
  go_enter Try.func19, Try.ntmps19
  go_wp2
  refine rec_tells (ao := none) (cap := 0) (R := ⟨o.client, o.seq, 12, ⟨#[]⟩, ⟨#[]⟩, 0, 0, 0, ⟨#[]⟩, o.tick, 0, []⟩) rfl (second_heap w _ _ _) rfl rfl ⟨VL.nil _ _, fun _ => rfl⟩ (three_below w _ _ _)
set_option maxRecDepth 100000 in
set_option maxHeartbeats 4000000 in
theorem only_13 (o : Rec) (ao : Option Addr) (cap : Nat) (w : World) (hv : VLI w ao cap o.moves) (hk : o.kind = 13) :
    Calls Try.prog 19 #[.agg (recA o (.slice ao o.moves.length cap))] w (Tells w (onlyR o)) := by
  have HV := Lib.hid (fun x y z => hv.below (three_below w x y z))
  rw [show onlyR o = ⟨o.client, o.seq, 13, ⟨#[]⟩, ⟨#[]⟩, 0, 0, 0, o.data, 0, o.ino, o.moves⟩ from by simp [onlyR, hk, rec0]]
  unfold recA
  rw [hk]
  clear hk hv
  go_enter Try.func19, Try.ntmps19
  go_wp2
  go_region
  all_goals go_wp2
  all_goals refine rec_tells (ao := ao) (cap := cap) (R := ⟨o.client, o.seq, 13, ⟨#[]⟩, ⟨#[]⟩, 0, 0, 0, o.data, 0, o.ino, o.moves⟩) rfl (second_heap w _ _ _) rfl rfl (hv_drew (HV.out _ _ _)) (three_below w _ _ _).drew
set_option maxRecDepth 100000 in
set_option maxHeartbeats 4000000 in
theorem only_14 (o : Rec) (ao : Option Addr) (cap : Nat) (w : World) (hv : VLI w ao cap o.moves) (hk : o.kind = 14) :
    Calls Try.prog 19 #[.agg (recA o (.slice ao o.moves.length cap))] w (Tells w (onlyR o)) := by
  have HV := Lib.hid (fun x y z => hv.below (three_below w x y z))
  rw [show onlyR o = ⟨o.client, o.seq, 14, ⟨#[]⟩, ⟨#[]⟩, o.size, 0, o.off, o.data, 0, 0, []⟩ from by simp [onlyR, hk, rec0]]
  unfold recA
  rw [hk]
  clear hk hv
  go_enter Try.func19, Try.ntmps19
  go_wp2
  go_region
  all_goals go_wp2
  all_goals refine rec_tells (ao := none) (cap := 0) (R := ⟨o.client, o.seq, 14, ⟨#[]⟩, ⟨#[]⟩, o.size, 0, o.off, o.data, 0, 0, []⟩) rfl (second_heap w _ _ _) rfl rfl ⟨VL.nil _ _, fun _ => rfl⟩ (three_below w _ _ _).drew
set_option maxRecDepth 100000 in
set_option maxHeartbeats 4000000 in
theorem only_0 (o : Rec) (ao : Option Addr) (cap : Nat) (w : World) (hv : VLI w ao cap o.moves) (hk : o.kind ≠ 1 ∧ o.kind ≠ 2 ∧ o.kind ≠ 3 ∧ o.kind ≠ 4 ∧ o.kind ≠ 5 ∧ o.kind ≠ 6 ∧ o.kind ≠ 7 ∧ o.kind ≠ 8 ∧ o.kind ≠ 9 ∧ o.kind ≠ 10 ∧ o.kind ≠ 11 ∧ o.kind ≠ 12 ∧ o.kind ≠ 13 ∧ o.kind ≠ 14) :
    Calls Try.prog 19 #[.agg (recA o (.slice ao o.moves.length cap))] w (Tells w (onlyR o)) := by
  have HV := Lib.hid (fun x y z => hv.below (three_below w x y z))
  rw [show onlyR o = ⟨o.client, o.seq, o.kind, ⟨#[]⟩, ⟨#[]⟩, 0, 0, 0, ⟨#[]⟩, 0, 0, []⟩ from by simp [onlyR, hk, rec0]]
  have e1 : (o.kind == 1) = false := beq_eq_false_iff_ne.2 (by omega)
  have e2 : (o.kind == 2) = false := beq_eq_false_iff_ne.2 (by omega)
  have e3 : (o.kind == 3) = false := beq_eq_false_iff_ne.2 (by omega)
  have e4 : (o.kind == 4) = false := beq_eq_false_iff_ne.2 (by omega)
  have e5 : (o.kind == 5) = false := beq_eq_false_iff_ne.2 (by omega)
  have e6 : (o.kind == 6) = false := beq_eq_false_iff_ne.2 (by omega)
  have e7 : (o.kind == 7) = false := beq_eq_false_iff_ne.2 (by omega)
  have e8 : (o.kind == 8) = false := beq_eq_false_iff_ne.2 (by omega)
  have e9 : (o.kind == 9) = false := beq_eq_false_iff_ne.2 (by omega)
  have e10 : (o.kind == 10) = false := beq_eq_false_iff_ne.2 (by omega)
  have e11 : (o.kind == 11) = false := beq_eq_false_iff_ne.2 (by omega)
  have e12 : (o.kind == 12) = false := beq_eq_false_iff_ne.2 (by omega)
  have e13 : (o.kind == 13) = false := beq_eq_false_iff_ne.2 (by omega)
  have e14 : (o.kind == 14) = false := beq_eq_false_iff_ne.2 (by omega)
  unfold recA
  clear hk hv
  go_enter Try.func19, Try.ntmps19
  go_wp2
  refine rec_tells (ao := none) (cap := 0) (R := ⟨o.client, o.seq, o.kind, ⟨#[]⟩, ⟨#[]⟩, 0, 0, 0, ⟨#[]⟩, 0, 0, []⟩) rfl (second_heap w _ _ _) rfl rfl ⟨VL.nil _ _, fun _ => rfl⟩ (three_below w _ _ _)
end Go.Proofs.Ythileemkiplodaa
