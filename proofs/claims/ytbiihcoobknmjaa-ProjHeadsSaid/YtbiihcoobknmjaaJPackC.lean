/- What put of each size and number return. Conditions: the number is one of 64 bits with a sign. -/
import Derived.Test.YtbiihcoobknmjaaGd
set_option linter.unusedVariables false
namespace Go.Proofs.Ytbiihcoobknmjaa
open Go.RowKit
set_option maxRecDepth 20000

theorem put8_in (v : Int) (h0 : 0 ≤ v) (h1 : v < 256) (w : World) :
    Calls Try.prog 66 #[.int .i64 v, .int .i64 1] w fun e w' => e = .returned (.tuple #[.string (putR v 1), .bool true]) ∧ Below w.heap.size w w' := by
  have hu : U64 v := ⟨by omega, by omega⟩
  have e0 : IntKind.u8.wrap v = v := by simp [IntKind.wrap, IntKind.bits, IntKind.signed]; omega
  have e1 : IntKind.u64.wrap v = v := wrapU_in hu
  go_enter Try.func66, Try.ntmps66
  go_wp2_with (go_at_call 77; refine (put_any v 1 hu _).mono ?_; rintro e w1 ⟨rfl, hb1⟩)
  go_ret2
  exact ⟨rfl, hb1⟩
theorem put8_out (v : Int) (h : v < 0 ∨ 256 ≤ v) (hv : -9223372036854775808 ≤ v ∧ v ≤ 9223372036854775807) (w : World) :
    Calls Try.prog 66 #[.int .i64 v, .int .i64 1] w fun e w' => e = .returned (.tuple #[.string ⟨#[]⟩, .bool false]) ∧ w = w' := by
  by_cases h0 : v < 0
  · go_enter Try.func66, Try.ntmps66
    go_wp2
    go_ret2
    exact ⟨rfl, rfl⟩
  · have h1 : 0 ≤ v := by omega
    have e0 : (v % 256 != v) = true := by simp; omega
    go_enter Try.func66, Try.ntmps66
    go_wp2
    go_ret2
    exact ⟨rfl, rfl⟩
theorem put16_in (v : Int) (h0 : 0 ≤ v) (h1 : v < 65536) (w : World) :
    Calls Try.prog 67 #[.int .i64 v, .int .i64 2] w fun e w' => e = .returned (.tuple #[.string (putR v 2), .bool true]) ∧ Below w.heap.size w w' := by
  have hu : U64 v := ⟨by omega, by omega⟩
  have e0 : IntKind.u16.wrap v = v := by simp [IntKind.wrap, IntKind.bits, IntKind.signed]; omega
  have e1 : IntKind.u64.wrap v = v := wrapU_in hu
  go_enter Try.func67, Try.ntmps67
  go_wp2_with (go_at_call 77; refine (put_any v 2 hu _).mono ?_; rintro e w1 ⟨rfl, hb1⟩)
  go_ret2
  exact ⟨rfl, hb1⟩
theorem put16_out (v : Int) (h : v < 0 ∨ 65536 ≤ v) (hv : -9223372036854775808 ≤ v ∧ v ≤ 9223372036854775807) (w : World) :
    Calls Try.prog 67 #[.int .i64 v, .int .i64 2] w fun e w' => e = .returned (.tuple #[.string ⟨#[]⟩, .bool false]) ∧ w = w' := by
  by_cases h0 : v < 0
  · go_enter Try.func67, Try.ntmps67
    go_wp2
    go_ret2
    exact ⟨rfl, rfl⟩
  · have h1 : 0 ≤ v := by omega
    have e0 : (wrap64 (IntKind.u16.wrap v) != v) = true := by
      rw [show IntKind.u16.wrap v = v % 65536 by simp [IntKind.wrap, IntKind.bits, IntKind.signed], wrap64_eq]
      simp
      omega
    go_enter Try.func67, Try.ntmps67
    go_wp2
    go_ret2
    exact ⟨rfl, rfl⟩
theorem put32_in (v : Int) (h0 : 0 ≤ v) (h1 : v < 4294967296) (w : World) :
    Calls Try.prog 68 #[.int .i64 v, .int .i64 4] w fun e w' => e = .returned (.tuple #[.string (putR v 4), .bool true]) ∧ Below w.heap.size w w' := by
  have hu : U64 v := ⟨by omega, by omega⟩
  have e0 : IntKind.u32.wrap v = v := by simp [IntKind.wrap, IntKind.bits, IntKind.signed]; omega
  have e1 : IntKind.u64.wrap v = v := wrapU_in hu
  go_enter Try.func68, Try.ntmps68
  go_wp2_with (go_at_call 77; refine (put_any v 4 hu _).mono ?_; rintro e w1 ⟨rfl, hb1⟩)
  go_ret2
  exact ⟨rfl, hb1⟩
theorem put32_out (v : Int) (h : v < 0 ∨ 4294967296 ≤ v) (hv : -9223372036854775808 ≤ v ∧ v ≤ 9223372036854775807) (w : World) :
    Calls Try.prog 68 #[.int .i64 v, .int .i64 4] w fun e w' => e = .returned (.tuple #[.string ⟨#[]⟩, .bool false]) ∧ w = w' := by
  by_cases h0 : v < 0
  · go_enter Try.func68, Try.ntmps68
    go_wp2
    go_ret2
    exact ⟨rfl, rfl⟩
  · have h1 : 0 ≤ v := by omega
    have e0 : (v % 4294967296 != v) = true := by simp; omega
    go_enter Try.func68, Try.ntmps68
    go_wp2
    go_ret2
    exact ⟨rfl, rfl⟩
theorem put64_in (v : Int) (h0 : 0 ≤ v) (h1 : v ≤ 9223372036854775807) (w : World) :
    Calls Try.prog 69 #[.int .i64 v, .int .i64 8] w fun e w' => e = .returned (.tuple #[.string (putR v 8), .bool true]) ∧ Below w.heap.size w w' := by
  have hu : U64 v := ⟨by omega, by omega⟩
  have e1 : IntKind.u64.wrap v = v := wrapU_in hu
  go_enter Try.func69, Try.ntmps69
  go_wp2_with (go_at_call 77; refine (put_any v 8 hu _).mono ?_; rintro e w1 ⟨rfl, hb1⟩)
  go_ret2
  exact ⟨rfl, hb1⟩
theorem put64_out (v : Int) (h0 : v < 0) (w : World) :
    Calls Try.prog 69 #[.int .i64 v, .int .i64 8] w fun e w' => e = .returned (.tuple #[.string ⟨#[]⟩, .bool false]) ∧ w = w' := by
  go_enter Try.func69, Try.ntmps69
  go_wp2
  go_ret2
  exact ⟨rfl, rfl⟩

/-- a number of n bytes that is packed -/
def numOk (v n : Int) : Prop := (n = 1 ∧ 0 ≤ v ∧ v < 256) ∨ (n = 2 ∧ 0 ≤ v ∧ v < 65536) ∨ (n = 4 ∧ 0 ≤ v ∧ v < 4294967296) ∨ (n = 8 ∧ 0 ≤ v)
instance (v n : Int) : Decidable (numOk v n) := by unfold numOk; infer_instance
theorem numOk_nonneg {v n : Int} (h : numOk v n) : 0 ≤ v := by unfold numOk at h; omega
theorem numOk_n {v n : Int} (h : numOk v n) : 1 ≤ n ∧ n ≤ 8 := by unfold numOk at h; omega
theorem number_in (v n : Int) (h : numOk v n) (hv : v ≤ 9223372036854775807) (w : World) :
    Calls Try.prog 46 #[.int .i64 v, .int .i64 n] w fun e w' => e = .returned (.tuple #[.string (putR v n), .bool true]) ∧ Below w.heap.size w w' := by
  rcases h with ⟨rfl, h0, h1⟩ | ⟨rfl, h0, h1⟩ | ⟨rfl, h0, h1⟩ | ⟨rfl, h0⟩

  · go_enter Try.func46, Try.ntmps46
    go_wp2_with (go_at_call 66; refine (put8_in v h0 h1 _).mono ?_; rintro e w1 ⟨rfl, hb1⟩)
    go_ret2
    exact ⟨rfl, hb1⟩
  · go_enter Try.func46, Try.ntmps46
    go_wp2_with (go_at_call 67; refine (put16_in v h0 h1 _).mono ?_; rintro e w1 ⟨rfl, hb1⟩)
    go_ret2
    exact ⟨rfl, hb1⟩
  · go_enter Try.func46, Try.ntmps46
    go_wp2_with (go_at_call 68; refine (put32_in v h0 h1 _).mono ?_; rintro e w1 ⟨rfl, hb1⟩)
    go_ret2
    exact ⟨rfl, hb1⟩
  · go_enter Try.func46, Try.ntmps46
    go_wp2_with (go_at_call 69; refine (put64_in v h0 hv _).mono ?_; rintro e w1 ⟨rfl, hb1⟩)
    go_ret2
    exact ⟨rfl, hb1⟩
theorem number_out (v n : Int) (h : ¬ numOk v n) (hv : -9223372036854775808 ≤ v ∧ v ≤ 9223372036854775807) (w : World) :
    Calls Try.prog 46 #[.int .i64 v, .int .i64 n] w fun e w' => e = .returned (.tuple #[.string ⟨#[]⟩, .bool false]) ∧ w = w' := by
  by_cases n1 : n = 1
  · subst n1
    have hx : v < 0 ∨ 256 ≤ v := by unfold numOk at h; omega
    clear h
    go_enter Try.func46, Try.ntmps46
    go_wp2_with (go_at_call 66; refine (put8_out v hx hv _).mono ?_; rintro e w1 ⟨rfl, rfl⟩)
    go_ret2
    exact ⟨rfl, rfl⟩
  · by_cases n2 : n = 2
    · subst n2
      have hx : v < 0 ∨ 65536 ≤ v := by unfold numOk at h; omega
      clear h
      go_enter Try.func46, Try.ntmps46
      go_wp2_with (go_at_call 67; refine (put16_out v hx hv _).mono ?_; rintro e w1 ⟨rfl, rfl⟩)
      go_ret2
      exact ⟨rfl, rfl⟩
    · by_cases n4 : n = 4
      · subst n4
        have hx : v < 0 ∨ 4294967296 ≤ v := by unfold numOk at h; omega
        clear h
        go_enter Try.func46, Try.ntmps46
        go_wp2_with (go_at_call 68; refine (put32_out v hx hv _).mono ?_; rintro e w1 ⟨rfl, rfl⟩)
        go_ret2
        exact ⟨rfl, rfl⟩
      · by_cases n8 : n = 8
        · subst n8
          have hx : v < 0 := by unfold numOk at h; omega
          clear h
          go_enter Try.func46, Try.ntmps46
          go_wp2_with (go_at_call 69; refine (put64_out v hx _).mono ?_; rintro e w1 ⟨rfl, rfl⟩)
          go_ret2
          exact ⟨rfl, rfl⟩
        · clear h
          have d1 : (n == 1) = false := by simpa using n1
          have d2 : (n == 2) = false := by simpa using n2
          have d4 : (n == 4) = false := by simpa using n4
          have d8 : (n == 8) = false := by simpa using n8
          go_enter Try.func46, Try.ntmps46
          go_wp2
          go_ret2
          exact ⟨rfl, rfl⟩
end Go.Proofs.Ytbiihcoobknmjaa
