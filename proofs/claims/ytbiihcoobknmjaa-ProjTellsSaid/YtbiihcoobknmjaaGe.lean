/- What Num, Text and Done of a packer do. Conditions: the packer is as PK says; what is put is a value of its kind. What Done of a packer tells. Conditions: the packer is as PK says. -/
import Derived.Test.YtbiihcoobknmjaaJPackC
import Derived.RegionTactic
import Derived.ChangeAlike
import Derived.Laws.BytesArg
set_option linter.unusedVariables false
namespace Go.Proofs.Ytbiihcoobknmjaa
open Go.RowKit
set_option maxRecDepth 20000

/-- what was put, and whether something could not be -/
structure St where
  s : ByteArray
  bad : Bool
def St.made (t : St) : ByteArray := if t.bad = true ∨ 65536 < t.s.size then ⟨#[]⟩ else t.s
def St.code (t : St) : Int := if t.bad = true then 11 else if 65536 < t.s.size then 2 else 0
def St.add (t : St) (x : ByteArray) : St := ⟨t.s ++ x, t.bad⟩
def St.spoil (t : St) : St := ⟨t.s, true⟩
def St.num (t : St) (v n : Int) : St := if numOk v n then t.add (putR v n) else t.spoil
def St.text (t : St) (x : ByteArray) : St := if x.size ≤ 65535 then t.add (putR x.size 2 ++ x) else t.spoil
theorem St.made_le (t : St) : t.made.size ≤ 65536 := by
  unfold St.made
  split
  · exact Nat.zero_le _
  · omega
theorem St.add_made (t : St) (x : ByteArray) : addM t.made t.code x = (t.add x).made := by
  unfold addM St.made St.code St.add
  cases hb : t.bad
  · by_cases hl : 65536 < t.s.size
    · simp [hl]
      omega
    · simp [hl, ByteArray.size_append]
  · simp
theorem St.add_code (t : St) (x : ByteArray) : addC t.made t.code x = (t.add x).code := by
  unfold addC St.made St.code St.add
  cases hb : t.bad
  · by_cases hl : 65536 < t.s.size
    · simp [hl]
      omega
    · simp [hl, ByteArray.size_append]
  · simp
theorem St.spoil_made (t : St) : t.spoil.made = ⟨#[]⟩ := by simp [St.made, St.spoil]
theorem St.spoil_code (t : St) : t.spoil.code = 11 := by simp [St.code, St.spoil]
theorem St.add_add (t : St) (x y : ByteArray) : (t.add x).add y = t.add (x ++ y) := by
  unfold St.add
  rw [ByteArray.append_assoc]
/-- block b is a packer in the state t -/
def PKs (S : Nat → Prop) (w : World) (b : Nat) (t : St) : Prop := PK S w b t.made t.code

theorem adds_any (S : Nat → Prop) (w : World) (b : Nat) (t : St) (x : ByteArray) (h : PKs S w b t) (hx : x.size ≤ 1099511627776) :
    Calls Try.prog 48 #[.pointer (some ⟨b, 0, none⟩), .string x] w fun r w' => r = .returned (.tuple #[]) ∧ PKs S w' b (t.add x) ∧ Kept S w w' := by
  have h' := add_any S w b t.made x t.code h t.made_le hx
  rw [t.add_made, t.add_code] at h'
  exact h'
theorem stops_any (S : Nat → Prop) (w : World) (b : Nat) (t : St) (h : PKs S w b t) :
    Calls Try.prog 47 #[.pointer (some ⟨b, 0, none⟩), .int .i64 11] w fun r w' => r = .returned (.tuple #[]) ∧ PKs S w' b t.spoil ∧ Kept S w w' := by
  have h' := stop_any S w b t.made t.code 11 h
  rw [← t.spoil_made, ← t.spoil_code] at h'
  rw [t.spoil_code] at h'
  refine h'.mono ?_
  rintro r w' ⟨h1, h2, h3⟩
  exact ⟨h1, by unfold PKs; rw [t.spoil_code]; exact h2, h3⟩
theorem putR_small (v n : Int) (h : 1 ≤ n ∧ n ≤ 8) : (putR v n).size ≤ 8 := by
  obtain ⟨k, rfl⟩ := Int.eq_ofNat_of_zero_le (show 0 ≤ n by omega)
  have := putR_len v k (by omega)
  omega
theorem PK.low {S : Nat → Prop} {w : World} {b : Nat} {m : ByteArray} {c : Int} (h : PK S w b m c) : ∀ k, S k → k < w.heap.size := h.1

theorem nums_any (S : Nat → Prop) (w : World) (b : Nat) (t : St) (v n : Int) (h : PKs S w b t) (hv : -9223372036854775808 ≤ v ∧ v ≤ 9223372036854775807) :
    Calls Try.prog 32 #[.pointer (some ⟨b, 0, none⟩), .int .i64 v, .int .i64 n] w fun r w' => r = .returned (.tuple #[]) ∧ PKs S w' b (t.num v n) ∧ Kept S w w' := by
  by_cases hok : numOk v n
  · have hs := putR_small v n (numOk_n hok)
    have H := Lib.hid (show t.num v n = t.add (putR v n) from if_pos hok)
    go_enter Try.func32, Try.ntmps32
    go_wp2_with (first | (go_at_call 46; refine (number_in v n hok hv.2 _).mono ?_; rintro e w1 ⟨rfl, hb1⟩) | (go_at_call 48; refine (adds_any S _ b t (putR v n) (h.keep (Kept.ofBelow hb1 (fun _ => True)) (fun _ _ => trivial)) (by omega)).mono ?_; rintro e w2 ⟨rfl, hp, hk⟩))
    go_end0
    rw [H.out]
    exact ⟨rfl, hp, (Kept.ofBelow hb1 S).trans hk⟩
  · have H := Lib.hid (show t.num v n = t.spoil from if_neg hok)
    go_enter Try.func32, Try.ntmps32
    go_wp2_with (first | (go_at_call 46; refine (number_out v n hok hv _).mono ?_; rintro e w1 ⟨rfl, rfl⟩) | (go_at_call 47; refine (stops_any S _ b t h).mono ?_; rintro e w2 ⟨rfl, hp, hk⟩))
    refine bodyPost_ret (results_none rfl _ _ _) rfl ?_
    rw [H.out]
    exact ⟨rfl, hp, hk⟩
end Go.Proofs.Ytbiihcoobknmjaa
namespace Go.Proofs.Ytbiihcoobknmjaa
open Go.RowKit
set_option maxRecDepth 20000

theorem strOfNums_bytes (m : ByteArray) : strOfNums (m.data.toList.map fun b => (b.toNat : Int)) = m := by
  apply ByteArray.ext
  apply Array.toList_inj.1
  rw [strOfNums_data, List.map_map]
  exact List.map_id'' (fun b => by simp) _
theorem conv_owned {w : World} {v : Value} {m : ByteArray} (h : w.ownsRow 0 5 1 v m.size (Lib.strCells m)) : (convert 73 9 v).run Try.prog w = .ok (.string m) w := by
  rcases h.2 with ⟨rfl, hz⟩ | ⟨g, cap, cur, rfl, hbg, hh, hn, hcm, hcs, htake⟩
  · have hm : m = ⟨#[]⟩ := ByteArray.ext (Array.eq_empty_of_size_eq_zero hz)
    subst hm
    rfl
  · have hl : (m.data.toList.map fun b => (b.toNat : Int)).length = m.size := by rw [List.length_map, Array.length_toList]; rfl
    have r := run_convert_bytes_arg w 73 5 Try.underlying73 Try.underlying5 g 0 m.size cap (m.data.toList.map fun b => (b.toNat : Int)) hl ?_ 9 Try.underlying9
    · rw [strOfNums_bytes] at r
      exact r
    · intro i hi
      have hi' : i < m.data.toList.length := by simpa using hi
      have hc := h.cells (g := g) rfl i (.int .u8 ((m.data.toList.map fun b => (b.toNat : Int)).getD i 0)) (by
        unfold Lib.strCells
        rw [List.getElem?_map, List.getElem?_eq_getElem hi', List.getD, List.getElem?_map, List.getElem?_eq_getElem hi']
        rfl)
      rw [show (⟨g, 0 + i, none⟩ : Addr) = (⟨g, 0, none⟩ : Addr).add i by unfold Addr.add; split <;> simp_all]
      exact hc
theorem done_any (S : Nat → Prop) (w : World) (b : Nat) (m : ByteArray) (c : Int) (h : PK S w b m c) :
    Calls Try.prog 33 #[.pointer (some ⟨b, 0, none⟩)] w fun e w' => e = .returned (.tuple #[.string m, .int .i64 c]) ∧ ∃ k, w' = w.drewN k := by
  obtain ⟨h1, h2, v, h3, h4, h5⟩ := h
  obtain ⟨c0, c1, f0, f1⟩ := two_cells h3
  have hcv : ∀ k, (convert 73 9 v).run Try.prog (w.drewN k) = .ok (.string m) (w.drewN k) := fun k => conv_owned ((Kept.refl (fun _ => True) w).drewN k |>.owns h4 (fun _ _ => trivial))
  have _hcw := conv_owned h4
  go_enter Try.func33, Try.ntmps33
  go_wp2
  go_quiet (fail)
  go_wp2
  go_ret2
  exact ⟨rfl, _, rfl⟩
end Go.Proofs.Ytbiihcoobknmjaa
