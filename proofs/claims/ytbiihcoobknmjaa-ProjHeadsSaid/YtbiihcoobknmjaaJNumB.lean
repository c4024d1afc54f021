/- Plain facts on how many bits of a number are set, on bits that are turned, and on a number's bytes; no program is spoken of. Conditions: the numbers' bounds, as each lemma states them. -/
import Derived.Test.YtbiihcoobknmjaaGa
set_option linter.unusedVariables false
namespace Go.Proofs.Ytbiihcoobknmjaa
open Go.RowKit

/-! ### how many bits are set -/
def pcF : Nat → Nat → Nat
  | 0, _ => 0
  | n + 1, v => v % 2 + pcF n (v / 2)
theorem pcF_le (n v : Nat) : pcF n v ≤ n := by
  induction n generalizing v with
  | zero => simp [pcF]
  | succ n ih => have := ih (v / 2); simp only [pcF]; omega
theorem pcF_zero (n : Nat) : pcF n 0 = 0 := by
  induction n with
  | zero => rfl
  | succ n ih => simp [pcF, ih]
def countI (v : Int) : Int := (pcF 64 v.toNat : Nat)

def rep (m : Nat) : Nat → Nat
  | 0 => 0
  | k + 1 => 256 * rep m k + m
def bsum (f : Nat → Nat) : Nat → Nat → Nat
  | 0, _ => 0
  | k + 1, v => 256 * bsum f k (v / 256) + f (v % 256)
theorem and_byte (q m d c : Nat) (hd : d < 256) (hc : c < 256) : (256 * q + d) &&& (256 * m + c) = 256 * (q &&& m) + (d &&& c) := by
  have hd' : d < 2 ^ 8 := hd
  have hc' : c < 2 ^ 8 := hc
  have hdc : d &&& c < 2 ^ 8 := Nat.lt_of_le_of_lt Nat.and_le_left hd'
  show (2 ^ 8 * q + d) &&& (2 ^ 8 * m + c) = 2 ^ 8 * (q &&& m) + (d &&& c)
  apply Nat.eq_of_testBit_eq
  intro i
  rw [Nat.testBit_and, Nat.testBit_two_pow_mul_add _ hd', Nat.testBit_two_pow_mul_add _ hc', Nat.testBit_two_pow_mul_add _ hdc, Nat.testBit_and, Nat.testBit_and]
  split <;> rfl
def f1 (d : Nat) : Nat := ((d / 2) &&& 85) + (d &&& 85)
def f2 (d : Nat) : Nat := ((d / 4) &&& 51) + (d &&& 51)
def f3 (d : Nat) : Nat := (d / 16 + d) &&& 15
theorem f1_shift : ∀ b < 2, ∀ d < 256, (128 * b + d / 2) &&& 85 = (d / 2) &&& 85 := by decide +kernel
theorem f2_shift : ∀ b < 4, ∀ d < 256, (64 * b + d / 4) &&& 51 = (d / 4) &&& 51 := by decide +kernel
theorem f1_lt : ∀ d < 256, f1 d < 256 := by decide +kernel
theorem f21_lt : ∀ d < 256, f2 (f1 d) % 16 ≤ 4 ∧ f2 (f1 d) / 16 ≤ 4 := by decide +kernel
theorem f321_eq : ∀ d < 256, f3 (f2 (f1 d)) = d % 2 + (d / 2 % 2 + (d / 4 % 2 + (d / 8 % 2 + (d / 16 % 2 + (d / 32 % 2 + (d / 64 % 2 + d / 128 % 2)))))) := by decide +kernel
theorem step1 (k v : Nat) : ((v / 2) &&& rep 85 k) + (v &&& rep 85 k) = bsum f1 k v := by
  induction k generalizing v with
  | zero => simp [rep, bsum]
  | succ k ih =>
    have hd : v % 256 < 256 := Nat.mod_lt _ (by decide)
    have e1 : v = 256 * (v / 256) + v % 256 := (Nat.div_add_mod v 256).symm
    have e2 : v / 2 = 256 * (v / 256 / 2) + (128 * (v / 256 % 2) + v % 256 / 2) := by omega
    have h := ih (v / 256)
    have s := f1_shift (v / 256 % 2) (Nat.mod_lt _ (by decide)) (v % 256) hd
    have a1 := and_byte (v / 256 / 2) (rep 85 k) (128 * (v / 256 % 2) + v % 256 / 2) 85 (by omega) (by decide)
    have a2 := and_byte (v / 256) (rep 85 k) (v % 256) 85 hd (by decide)
    rw [← e2] at a1
    rw [← e1] at a2
    simp only [rep, bsum, f1, a1, a2, s]
    omega
theorem step2 (k v : Nat) : ((v / 4) &&& rep 51 k) + (v &&& rep 51 k) = bsum f2 k v := by
  induction k generalizing v with
  | zero => simp [rep, bsum]
  | succ k ih =>
    have hd : v % 256 < 256 := Nat.mod_lt _ (by decide)
    have e1 : v = 256 * (v / 256) + v % 256 := (Nat.div_add_mod v 256).symm
    have e2 : v / 4 = 256 * (v / 256 / 4) + (64 * (v / 256 % 4) + v % 256 / 4) := by omega
    have h := ih (v / 256)
    have s := f2_shift (v / 256 % 4) (Nat.mod_lt _ (by decide)) (v % 256) hd
    have a1 := and_byte (v / 256 / 4) (rep 51 k) (64 * (v / 256 % 4) + v % 256 / 4) 51 (by omega) (by decide)
    have a2 := and_byte (v / 256) (rep 51 k) (v % 256) 51 hd (by decide)
    rw [← e2] at a1
    rw [← e1] at a2
    simp only [rep, bsum, f2, a1, a2, s]
    omega
theorem bsum_comp (f g : Nat → Nat) (hg : ∀ d < 256, g d < 256) (k v : Nat) : bsum f k (bsum g k v) = bsum (fun d => f (g d)) k v := by
  induction k generalizing v with
  | zero => simp [bsum]
  | succ k ih =>
    have h := hg (v % 256) (Nat.mod_lt _ (by decide))
    have d1 : (256 * bsum g k (v / 256) + g (v % 256)) / 256 = bsum g k (v / 256) := by omega
    have d2 : (256 * bsum g k (v / 256) + g (v % 256)) % 256 = g (v % 256) := by omega
    simp only [bsum, d1, d2, ih]
theorem low4 : ∀ t ≤ 4, ∀ d < 256, d / 16 ≤ 4 → (d + d / 16 + 16 * t) &&& 15 = (d / 16 + d) &&& 15 := by decide +kernel
theorem step3 (g : Nat → Nat) (hg : ∀ d < 256, g d % 16 ≤ 4 ∧ g d / 16 ≤ 4) (k v : Nat) : (bsum g k v / 16 + bsum g k v) &&& rep 15 k = bsum (fun d => f3 (g d)) k v := by
  induction k generalizing v with
  | zero => simp [rep, bsum]
  | succ k ih =>
    obtain ⟨h1, h2⟩ := hg (v % 256) (Nat.mod_lt _ (by decide))
    have hq : bsum g k (v / 256) % 16 ≤ 4 := by
      cases k with
      | zero => simp [bsum]
      | succ k => obtain ⟨h3, h4⟩ := hg (v / 256 % 256) (Nat.mod_lt _ (by decide)); simp only [bsum]; omega
    have h := ih (v / 256)
    simp only [rep, bsum]
    generalize hQ : bsum g k (v / 256) = Q at *
    generalize hD : g (v % 256) = D at *
    have e : (256 * Q + D) / 16 + (256 * Q + D) = 256 * (Q / 16 + Q) + (D + D / 16 + 16 * (Q % 16)) := by omega
    rw [e, and_byte _ _ _ _ (by omega) (by decide), h, low4 _ hq _ (by omega) h2]
    rfl
theorem pcF_byte (n v : Nat) : pcF (n + 8) v = (v % 2 + (v / 2 % 2 + (v / 4 % 2 + (v / 8 % 2 + (v / 16 % 2 + (v / 32 % 2 + (v / 64 % 2 + v / 128 % 2))))))) + pcF n (v / 256) := by
  simp only [pcF, Nat.div_div_eq_div_mul, Nat.reduceMul]
  omega
def byteCount (d : Nat) : Nat := f3 (f2 (f1 d))
theorem byteCount_le : ∀ d < 256, byteCount d ≤ 8 := by decide +kernel
theorem bit_of (v : Nat) : v % 256 % 2 = v % 2 ∧ v % 256 / 2 % 2 = v / 2 % 2 ∧ v % 256 / 4 % 2 = v / 4 % 2 ∧ v % 256 / 8 % 2 = v / 8 % 2 ∧ v % 256 / 16 % 2 = v / 16 % 2 ∧ v % 256 / 32 % 2 = v / 32 % 2 ∧ v % 256 / 64 % 2 = v / 64 % 2 ∧ v % 256 / 128 % 2 = v / 128 % 2 := by
  refine ⟨?_, ?_, ?_, ?_, ?_, ?_, ?_, ?_⟩ <;> omega
theorem sum_congr (a0 a1 a2 a3 a4 a5 a6 a7 b0 b1 b2 b3 b4 b5 b6 b7 x y z : Nat) (h : x = a0 + (a1 + (a2 + (a3 + (a4 + (a5 + (a6 + a7)))))))
    (e : a0 = b0 ∧ a1 = b1 ∧ a2 = b2 ∧ a3 = b3 ∧ a4 = b4 ∧ a5 = b5 ∧ a6 = b6 ∧ a7 = b7) (hz : z = (b0 + (b1 + (b2 + (b3 + (b4 + (b5 + (b6 + b7))))))) + y) : z = x + y := by
  obtain ⟨rfl, rfl, rfl, rfl, rfl, rfl, rfl, rfl⟩ := e
  rw [h, hz]
theorem pcF_step (n v : Nat) : pcF (n + 8) v = byteCount (v % 256) + pcF n (v / 256) :=
  sum_congr _ _ _ _ _ _ _ _ _ _ _ _ _ _ _ _ _ _ _ (f321_eq (v % 256) (Nat.mod_lt _ (by decide))) (bit_of v) (pcF_byte n v)

/-- the sums of all eight bytes, halves upon halves -/
theorem fold_a (c0 c1 c2 q1 q2 q3 y z : Nat) (h0 : c0 ≤ 8) (_h1 : c1 ≤ 8) (_h2 : c2 ≤ 8) (hy : y = 256 * q1 + c0) (e1 : q1 = 256 * q2 + c1) (e2 : q2 = 256 * q3 + c2) (hz : z = y + y / 256) :
    z = 65536 * (q2 + q3) + (256 * (c1 + c2) + (c0 + c1)) := by omega
theorem fold_b (r a z x : Nat) (hr : r ≤ 5000) (hz : z = 65536 * a + r) (hx : x = z + z / 65536) : x = 65537 * a + r := by omega
theorem fold_d (b t s r x u : Nat) (hr : r ≤ 5000) (hs : s ≤ 5000) (ht : t ≤ 5000) (g : Nat) (hb : b = 65536 * g + t) (hx : x = 65537 * (65536 * b + s) + r) (hu : u = x + x / 4294967296) : u = x + (b + g) := by omega
theorem fold_bytes (c0 c1 c2 c3 c4 c5 c6 c7 : Nat) (h0 : c0 ≤ 8) (h1 : c1 ≤ 8) (h2 : c2 ≤ 8) (h3 : c3 ≤ 8) (h4 : c4 ≤ 8) (h5 : c5 ≤ 8) (h6 : c6 ≤ 8) (h7 : c7 ≤ 8) (y z x u : Nat)
    (hy : y = 256 * (256 * (256 * (256 * (256 * (256 * (256 * c7 + c6) + c5) + c4) + c3) + c2) + c1) + c0)
    (hz : z = y + y / 256) (hx : x = z + z / 65536) (hu : u = x + x / 4294967296) :
    u % 128 = c0 + (c1 + (c2 + (c3 + (c4 + (c5 + (c6 + c7)))))) := by
  obtain ⟨q6, e6⟩ : ∃ q, q = 256 * c7 + c6 := ⟨_, rfl⟩
  rw [← e6] at hy
  obtain ⟨q5, e5⟩ : ∃ q, q = 256 * q6 + c5 := ⟨_, rfl⟩
  rw [← e5] at hy
  obtain ⟨q4, e4⟩ : ∃ q, q = 256 * q5 + c4 := ⟨_, rfl⟩
  rw [← e4] at hy
  obtain ⟨q3, e3⟩ : ∃ q, q = 256 * q4 + c3 := ⟨_, rfl⟩
  rw [← e3] at hy
  obtain ⟨q2, e2⟩ : ∃ q, q = 256 * q3 + c2 := ⟨_, rfl⟩
  rw [← e2] at hy
  obtain ⟨q1, e1⟩ : ∃ q, q = 256 * q2 + c1 := ⟨_, rfl⟩
  rw [← e1] at hy
  have a := fold_a c0 c1 c2 q1 q2 q3 y z h0 h1 h2 hy e1 e2 hz
  have b := fold_b _ _ z x (by omega) a hx
  obtain ⟨r, hr⟩ : ∃ r, r = 256 * (c1 + c2) + (c0 + c1) := ⟨_, rfl⟩
  rw [← hr] at b
  have hA : q2 + q3 = 65536 * (q4 + q5) + (256 * (c3 + c4) + (c2 + c3)) := by rw [e2, e3, e4]; omega
  obtain ⟨s, hs⟩ : ∃ s, s = 256 * (c3 + c4) + (c2 + c3) := ⟨_, rfl⟩
  rw [← hs] at hA
  rw [hA] at b
  have hB : q4 + q5 = 65536 * (q6 + c7) + (256 * (c5 + c6) + (c4 + c5)) := by rw [e4, e5, e6]; omega
  have d := fold_d (q4 + q5) (256 * (c5 + c6) + (c4 + c5)) s r x u (by omega) (by omega) (by omega) (q6 + c7) hB b hu
  have m1 : x = 128 * (512 * (65537 * (q4 + q5)) + 512 * s) + (s + r) := by omega
  have m2 : s + r = 128 * (2 * (c3 + c4) + 2 * (c1 + c2)) + (c2 + c3 + (c0 + c1)) := by omega
  have m3 : q4 + q5 + (q6 + c7) = 128 * (2 * q5 + 2 * q6 + 2 * c7) + (c4 + c5 + c6 + c7) := by omega
  have m4 : u = 128 * ((512 * (65537 * (q4 + q5)) + 512 * s) + (2 * (c3 + c4) + 2 * (c1 + c2)) + (2 * q5 + 2 * q6 + 2 * c7)) + ((c2 + c3 + (c0 + c1)) + (c4 + c5 + c6 + c7)) := by omega
  clear hy hz hx hu a b hA hB d m1 m2 m3 e1 e2 e3 e4 e5 e6 hr hs
  generalize (512 * (65537 * (q4 + q5)) + 512 * s) + (2 * (c3 + c4) + 2 * (c1 + c2)) + (2 * q5 + 2 * q6 + 2 * c7) = G at m4
  omega

def N1 (v : Nat) : Nat := bsum f1 8 v
def N2 (v : Nat) : Nat := bsum f2 8 (N1 v)
def N3 (v : Nat) : Nat := (N2 v / 16 + N2 v) &&& rep 15 8
def N4 (v : Nat) : Nat := N3 v + N3 v / 256
def N5 (v : Nat) : Nat := N4 v + N4 v / 65536
def N6 (v : Nat) : Nat := N5 v + N5 v / 4294967296
theorem N2_eq (v : Nat) : N2 v = bsum (fun d => f2 (f1 d)) 8 v := bsum_comp f2 f1 f1_lt 8 v
theorem N3_eq (v : Nat) : N3 v = bsum byteCount 8 v := by
  unfold N3
  rw [N2_eq]
  exact step3 (fun d => f2 (f1 d)) f21_lt 8 v
theorem bsum_lt (f : Nat → Nat) (hf : ∀ d < 256, f d < 256) (k v : Nat) : bsum f k v < 256 ^ k := by
  induction k generalizing v with
  | zero => simp [bsum]
  | succ k ih =>
    have h1 := ih (v / 256)
    have h2 := hf (v % 256) (Nat.mod_lt _ (by decide))
    simp only [bsum]
    rw [Nat.pow_succ]
    omega
theorem N6_mod (v : Nat) : N6 v % 128 = pcF 64 v := by
  have hc : ∀ x, byteCount (x % 256) ≤ 8 := fun x => byteCount_le _ (Nat.mod_lt _ (by decide))
  have hp : pcF 64 v = byteCount (v % 256) + (byteCount (v / 256 % 256) + (byteCount (v / 256 / 256 % 256) + (byteCount (v / 256 / 256 / 256 % 256) + (byteCount (v / 256 / 256 / 256 / 256 % 256) + (byteCount (v / 256 / 256 / 256 / 256 / 256 % 256) + (byteCount (v / 256 / 256 / 256 / 256 / 256 / 256 % 256) + byteCount (v / 256 / 256 / 256 / 256 / 256 / 256 / 256 % 256))))))) := by
    rw [pcF_step 56, pcF_step 48, pcF_step 40, pcF_step 32, pcF_step 24, pcF_step 16, pcF_step 8, pcF_step 0]
    simp only [pcF, Nat.add_zero]
  rw [hp]
  refine fold_bytes _ _ _ _ _ _ _ _ (hc _) (hc _) (hc _) (hc _) (hc _) (hc _) (hc _) (hc _) (N3 v) (N4 v) (N5 v) (N6 v) ?_ rfl rfl rfl
  rw [N3_eq]
  simp only [bsum, Nat.mul_zero, Nat.zero_add]

theorem N1_lt (v : Nat) : N1 v < 18446744073709551616 := bsum_lt f1 f1_lt 8 v
theorem N2_lt (v : Nat) : N2 v < 18446744073709551616 := by
  rw [N2_eq]; exact bsum_lt _ (fun d hd => by have := f21_lt d hd; omega) 8 v
theorem N2_small (v : Nat) : N2 v < 4919131752989213765 := by
  have h : N2 v ≤ rep 68 8 := by
    rw [N2_eq]
    have : ∀ k x, bsum (fun d => f2 (f1 d)) k x ≤ rep 68 k := by
      intro k
      induction k with
      | zero => intro x; simp [bsum]
      | succ k ih =>
        intro x
        have h1 := ih (x / 256)
        have h2 := f21_lt (x % 256) (Nat.mod_lt _ (by decide))
        simp only [bsum, rep]
        omega
    exact this 8 v
  have e : rep 68 8 = 4919131752989213764 := by decide +kernel
  omega
theorem N3_small (v : Nat) : N3 v ≤ 578721382704613384 := by
  rw [N3_eq]
  have : ∀ k x, bsum byteCount k x ≤ rep 8 k := by
    intro k
    induction k with
    | zero => intro x; simp [bsum]
    | succ k ih =>
      intro x
      have h1 := ih (x / 256)
      have h2 := byteCount_le (x % 256) (Nat.mod_lt _ (by decide))
      simp only [bsum, rep]
      omega
  have h := this 8 v
  have e : rep 8 8 = 578721382704613384 := by decide +kernel
  omega
theorem wrapU_nat (a : Nat) (h : a < 18446744073709551616) : IntKind.u64.wrap (a : Int) = a := wrapU_in ⟨by omega, by omega⟩
theorem ones1 (v : Nat) (hv : v < 18446744073709551616) : IntKind.u64.wrap (bits .and .u64 ((v : Int) / 2) 6148914691236517205 + bits .and .u64 (v : Int) 6148914691236517205) = (N1 v : Nat) := by
  have e : rep 85 8 = 6148914691236517205 := by decide +kernel
  have a : bits .and .u64 ((v : Int) / 2) 6148914691236517205 = ((v / 2 &&& rep 85 8 : Nat) : Int) := by rw [e]; exact u64_and_nat (v / 2) 6148914691236517205 (by omega) (by omega)
  have b : bits .and .u64 (v : Int) 6148914691236517205 = ((v &&& rep 85 8 : Nat) : Int) := by rw [e]; exact u64_and_nat v 6148914691236517205 (by omega) (by omega)
  rw [a, b, ← Int.natCast_add, step1]
  exact wrapU_nat _ (N1_lt v)
theorem ones2 (v : Nat) : IntKind.u64.wrap (bits .and .u64 (((N1 v : Nat) : Int) / 4) 3689348814741910323 + bits .and .u64 ((N1 v : Nat) : Int) 3689348814741910323) = (N2 v : Nat) := by
  have e : rep 51 8 = 3689348814741910323 := by decide +kernel
  have h := N1_lt v
  have a : bits .and .u64 (((N1 v : Nat) : Int) / 4) 3689348814741910323 = ((N1 v / 4 &&& rep 51 8 : Nat) : Int) := by rw [e]; exact u64_and_nat (N1 v / 4) 3689348814741910323 (by omega) (by omega)
  have b : bits .and .u64 ((N1 v : Nat) : Int) 3689348814741910323 = ((N1 v &&& rep 51 8 : Nat) : Int) := by rw [e]; exact u64_and_nat (N1 v) 3689348814741910323 (by omega) (by omega)
  rw [a, b, ← Int.natCast_add, step2]
  exact wrapU_nat _ (N2_lt v)
theorem ones3 (v : Nat) : bits .and .u64 (IntKind.u64.wrap (((N2 v : Nat) : Int) / 16 + ((N2 v : Nat) : Int))) 1085102592571150095 = (N3 v : Nat) := by
  have e : rep 15 8 = 1085102592571150095 := by decide +kernel
  have h := N2_small v
  have a : IntKind.u64.wrap (((N2 v : Nat) : Int) / 16 + ((N2 v : Nat) : Int)) = ((N2 v / 16 + N2 v : Nat) : Int) := wrapU_nat (N2 v / 16 + N2 v) (by omega)
  rw [a]
  unfold N3
  rw [e]
  exact u64_and_nat (N2 v / 16 + N2 v) 1085102592571150095 (by omega) (by omega)
theorem ones4 (v : Nat) : IntKind.u64.wrap (((N3 v : Nat) : Int) + ((N3 v : Nat) : Int) / 256) = (N4 v : Nat) := by
  have h := N3_small v
  exact wrapU_nat (N3 v + N3 v / 256) (by omega)
theorem N4_small (v : Nat) : N4 v ≤ 600000000000000000 := by have h := N3_small v; unfold N4; omega
theorem ones5 (v : Nat) : IntKind.u64.wrap (((N4 v : Nat) : Int) + ((N4 v : Nat) : Int) / 65536) = (N5 v : Nat) := by
  have h := N4_small v
  exact wrapU_nat (N4 v + N4 v / 65536) (by omega)
theorem N5_small (v : Nat) : N5 v ≤ 700000000000000000 := by have h := N4_small v; unfold N5; omega
theorem ones6 (v : Nat) : IntKind.u64.wrap (((N5 v : Nat) : Int) + ((N5 v : Nat) : Int) / 4294967296) = (N6 v : Nat) := by
  have h := N5_small v
  exact wrapU_nat (N5 v + N5 v / 4294967296) (by omega)
theorem N6_small (v : Nat) : N6 v ≤ 800000000000000000 := by have h := N5_small v; unfold N6; omega

/-! ### bits that are turned -/
def turnI (v : Int) (k : Nat) : Int := v * 2 ^ k % 4294967296 + v / 2 ^ (32 - k)
theorem turn_parts {v : Int} (hv : U32 v) {k : Nat} (hk : k ≤ 32) : v * 2 ^ k % 4294967296 = v % 2 ^ (32 - k) * 2 ^ k ∧ 0 ≤ v / 2 ^ (32 - k) ∧ v / 2 ^ (32 - k) < 2 ^ k ∧ v % 2 ^ (32 - k) * 2 ^ k + 2 ^ k ≤ 4294967296 := by
  have hp := two_pow_pos k
  have hq := two_pow_pos (32 - k)
  have hs : (2 : Int) ^ (32 - k) * 2 ^ k = 4294967296 := by rw [← two_32, ← two_pow_split hk]
  have hx : v % 2 ^ (32 - k) < 2 ^ (32 - k) := Int.emod_lt_of_pos _ (by omega)
  refine ⟨?_, Int.ediv_nonneg hv.1 (by omega), ?_, ?_⟩
  · rw [← hs, Int.mul_comm v, Int.mul_comm (2 ^ (32 - k)), Int.mul_emod_mul_of_pos _ _ (by omega), Int.mul_comm]
  · have := hv.2
    rw [← hs] at this
    exact Int.ediv_lt_of_lt_mul (by omega) (by rw [Int.mul_comm]; exact this)
  · have h1 : (v % 2 ^ (32 - k) + 1) * 2 ^ k ≤ 2 ^ (32 - k) * 2 ^ k := Int.mul_le_mul_of_nonneg_right (by omega) (by omega)
    rw [hs, Int.add_mul] at h1
    omega
theorem turnI_U {v : Int} (hv : U32 v) {k : Nat} (hk : k ≤ 32) : U32 (turnI v k) := by
  obtain ⟨h1, h2, h3, h4⟩ := turn_parts hv hk
  unfold turnI
  rw [h1]
  have h5 : 0 ≤ v % 2 ^ (32 - k) * 2 ^ k := Int.mul_nonneg (Int.emod_nonneg _ (by have := two_pow_pos (32 - k); omega)) (by have := two_pow_pos k; omega)
  exact ⟨by omega, by omega⟩
theorem turn_val {v : Int} (hv : U32 v) {k : Nat} (hk : k ≤ 32) : bits .or .u32 (v * 2 ^ k % 4294967296) (v / 2 ^ (32 - k)) = turnI v k := by
  obtain ⟨h1, h2, h3, h4⟩ := turn_parts hv hk
  have hp := two_pow_pos k
  have h5 : 0 ≤ v % 2 ^ (32 - k) * 2 ^ k := Int.mul_nonneg (Int.emod_nonneg _ (by have := two_pow_pos (32 - k); omega)) (by omega)
  unfold turnI
  rw [h1]
  have hm : v % 2 ^ (32 - k) * 2 ^ k % 2 ^ k = 0 := Int.mul_emod_left _ _
  generalize v % 2 ^ (32 - k) * 2 ^ k = x at *
  generalize v / 2 ^ (32 - k) = y at *
  rw [u32_or x y h5 (by omega) h2 (by omega), nat_join k]
  · omega
  · have : ((x.toNat % 2 ^ k : Nat) : Int) = 0 := by rw [Int.natCast_emod, Int.toNat_of_nonneg h5, ← two_pow_cast]; exact hm
    omega
  · rw [two_pow_cast] at h3; omega
theorem and31 (n : Int) : bits .and .u64 (IntKind.u64.wrap n) 31 = n % 32 := by
  have h := and_ones (wrapU_U n) (show 5 ≤ 64 by decide)
  have e : ones 5 = 31 := by decide
  rw [e] at h
  rw [h, IntKind.wrap_u64]
  have : (2 : Int) ^ 5 = 32 := by decide
  rw [this]
  omega
theorem turn_zero {v : Int} (hv : U32 v) : turnI v 0 = v := by
  unfold turnI
  have h1 := hv.1
  have h2 := hv.2
  simp
  omega
theorem turn_arith (b h X : Int) (hb : b = 0 ∨ b = 1) (h0 : 0 ≤ h) (hX : 0 ≤ X) (hs : X + h < 2147483648) :
    ((b * 2147483648 + X + h) * 2 % 4294967296 + (b * 2147483648 + X + h) / 2147483648 % 4294967296) % 4294967296 = 2 * X + (2 * h + b) := by
  have e1 : (b * 2147483648 + X + h) / 2147483648 = b := by omega
  have e2 : (b * 2147483648 + X + h) * 2 % 4294967296 = 2 * (X + h) := by
    rw [show (b * 2147483648 + X + h) * 2 = 2 * (X + h) + 4294967296 * b by omega, Int.add_mul_emod_self_left]
    exact Int.emod_eq_of_lt (by omega) (by omega)
  rw [e1, e2]
  have e3 : b % 4294967296 = b := Int.emod_eq_of_lt (by omega) (by omega)
  rw [e3, Int.emod_eq_of_lt (by omega) (by omega)]
  omega
theorem turn_pieces (v q p : Int) (hq : 1 ≤ q) (hp : 1 ≤ p) (h31 : q * p = 2147483648) (hh : v / (q * 2) < p) (hv : 0 ≤ v) :
    v % (q * 2) * p = v / q % 2 * 2147483648 + v % q * p ∧ 0 ≤ v / (q * 2) ∧ 0 ≤ v % q * p ∧ v % q * p + v / (q * 2) < 2147483648 ∧ v / q = 2 * (v / (q * 2)) + v / q % 2 := by
  have hdd : v / q / 2 = v / (q * 2) := Int.ediv_ediv_of_nonneg (by omega)
  have m1 := Int.mul_ediv_add_emod v q
  have m2 := Int.mul_ediv_add_emod v (q * 2)
  have m3 : v % q < q := Int.emod_lt_of_pos _ (by omega)
  have m4 : 0 ≤ v % q := Int.emod_nonneg _ (by omega)
  have m5 : 0 ≤ v / q := Int.ediv_nonneg hv (by omega)
  rw [← hdd] at m2 hh ⊢
  generalize v / q = d at *
  generalize v % q = r at *
  generalize v % (q * 2) = l at *
  have hb : d / 2 * 2 + d % 2 = d := by omega
  have hl2 : l = d % 2 * q + r := by
    have x1 : q * d = q * (d / 2 * 2 + d % 2) := by rw [hb]
    rw [Int.mul_add, Int.mul_comm q (d % 2)] at x1
    have x2 : q * 2 * (d / 2) = q * (d / 2 * 2) := by rw [Int.mul_assoc, Int.mul_comm 2]
    omega
  have hlp : l * p = d % 2 * 2147483648 + r * p := by rw [hl2, Int.add_mul, Int.mul_assoc, h31]
  have hrp : r * p + p ≤ 2147483648 := by
    have x := Int.mul_le_mul_of_nonneg_right (show r + 1 ≤ q by omega) (show 0 ≤ p by omega)
    rw [h31, Int.add_mul] at x
    omega
  have hrp0 : 0 ≤ r * p := Int.mul_nonneg m4 (by omega)
  exact ⟨hlp, by omega, hrp0, by omega, by omega⟩
theorem turn_succ {v : Int} (hv : U32 v) {k : Nat} (hk : k + 1 ≤ 32) :
    (turnI v k * 2 % 4294967296 + (turnI v k).tdiv 2147483648 % 4294967296) % 4294967296 = turnI v (k + 1) := by
  obtain ⟨a1, a2, a3, _⟩ := turn_parts hv (show k ≤ 32 by omega)
  obtain ⟨b1, _, _, _⟩ := turn_parts hv hk
  have hU := turnI_U hv (show k ≤ 32 by omega)
  rw [Int.tdiv_eq_ediv_of_nonneg hU.1]
  have e1 : turnI v k = v % 2 ^ (32 - k) * 2 ^ k + v / 2 ^ (32 - k) := by unfold turnI; rw [a1]
  have e2 : turnI v (k + 1) = v % 2 ^ (32 - (k + 1)) * 2 ^ (k + 1) + v / 2 ^ (32 - (k + 1)) := by unfold turnI; rw [b1]
  have hq : (2 : Int) ^ (32 - k) = 2 ^ (32 - (k + 1)) * 2 := by rw [show 32 - k = (32 - (k + 1)) + 1 by omega, Int.pow_succ]
  have hp : (2 : Int) ^ (k + 1) = 2 * 2 ^ k := two_pow_succ k
  have h31 : (2 : Int) ^ (32 - (k + 1)) * 2 ^ k = 2147483648 := by rw [← Int.pow_add, show 32 - (k + 1) + k = 31 by omega]; decide
  rw [hq] at e1 a3
  rw [hp] at e2
  obtain ⟨c1, c2, c3, c4, c5⟩ := turn_pieces v _ _ (two_pow_pos (32 - (k + 1))) (two_pow_pos k) h31 a3 hv.1
  rw [c1] at e1
  rw [e1, turn_arith _ _ _ (by omega) c2 c3 c4, e2, ← c5, Int.mul_left_comm]
end Go.Proofs.Ytbiihcoobknmjaa
