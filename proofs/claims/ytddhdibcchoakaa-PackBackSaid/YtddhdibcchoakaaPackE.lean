/- What Done of a packer tells. Conditions: the packer is as PK says. -/
import Derived.Test.YtddhdibcchoakaaPackD
import Derived.Laws.BytesArg
namespace Go.Proofs.Ytddhdibcchoakaa
open Go.RowKit

theorem strOfNums_bytes (m : ByteArray) : strOfNums (m.data.toList.map fun b => (b.toNat : Int)) = m := by
  apply ByteArray.ext
  apply Array.toList_inj.1
  rw [strOfNums_data, List.map_map]
  exact List.map_id'' (fun b => by simp) _
theorem conv_owned {w : World} {v : Value} {m : ByteArray} (h : w.ownsRow 0 5 1 v m.size (Lib.strCells m)) : (convert 50 9 v).run Try.prog w = .ok (.string m) w := by
  rcases h.2 with ⟨rfl, hz⟩ | ⟨g, cap, cur, rfl, hbg, hh, hn, hcm, hcs, htake⟩
  · have hm : m = ⟨#[]⟩ := ByteArray.ext (Array.eq_empty_of_size_eq_zero hz)
    subst hm
    rfl
  · have hl : (m.data.toList.map fun b => (b.toNat : Int)).length = m.size := by rw [List.length_map, Array.length_toList]; rfl
    have r := run_convert_bytes_arg w 50 5 Try.underlying50 Try.underlying5 g 0 m.size cap (m.data.toList.map fun b => (b.toNat : Int)) hl ?_ 9 Try.underlying9
    · rw [strOfNums_bytes] at r
      exact r
    · intro i hi
      have hi' : i < m.data.toList.length := by simpa using hi
      have hc := h.cells (g := g) rfl i (.int .u8 ((m.data.toList.map fun b => (b.toNat : Int)).getD i 0)) (by
        unfold Lib.strCells
        rw [List.getElem?_map, List.getElem?_eq_getElem hi', List.getD, List.getElem?_map, List.getElem?_eq_getElem hi']
        rfl)
      rw [show (⟨g, 0 + i, none⟩ : Addr) = (⟨g, 0, none⟩ : Addr).add i by unfold Addr.add; split <;> simp_all]
      exact hc
theorem done_any (S : Nat → Prop) (w : World) (b : Nat) (m : ByteArray) (c : Int) (h : PK S w b m c) :
    Calls Try.prog 15 #[.pointer (some ⟨b, 0, none⟩)] w fun e w' => e = .returned (.tuple #[.string m, .int .i64 c]) ∧ ∃ k, w' = w.drewN k := by
  obtain ⟨h1, h2, v, h3, h4, h5⟩ := h
  obtain ⟨c0, c1, f0, f1⟩ := two_cells h3
  have hcv : ∀ k, (convert 50 9 v).run Try.prog (w.drewN k) = .ok (.string m) (w.drewN k) := fun k => conv_owned ((Kept.refl (fun _ => True) w).drewN k |>.owns h4 (fun _ _ => trivial))
  have _hcw := conv_owned h4
  go_enter Try.func15, Try.ntmps15
  go_wp2
  go_quiet (fail)
  go_wp2
  go_ret2
  exact ⟨rfl, _, rfl⟩
end Go.Proofs.Ytddhdibcchoakaa
