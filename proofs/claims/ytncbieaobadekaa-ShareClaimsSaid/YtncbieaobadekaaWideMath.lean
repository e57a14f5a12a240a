/- Plain numbers in digits of 65536: no program here. -/
import Derived.WalkKit
import Derived.Laws.Bits64b
import Derived.OneCell
namespace Go.Proofs.Ytncbieaobadekaa
open Go.RowKit

def dg (N i : Nat) : Nat := N / 65536 ^ i % 65536
theorem dg_lt (N i : Nat) : dg N i < 65536 := Nat.mod_lt _ (by omega)
def numV (N : Nat) : Value := .agg #[.int .u64 (dg N 0 : Nat), .int .u64 (dg N 1 : Nat), .int .u64 (dg N 2 : Nat), .int .u64 (dg N 3 : Nat), .int .u64 (dg N 4 : Nat), .int .u64 (dg N 5 : Nat), .int .u64 (dg N 6 : Nat), .int .u64 (dg N 7 : Nat)]

theorem and16 (x : Nat) (h : x < 18446744073709551616) : bits .and .u64 (x : Int) 65535 = ((x % 65536 : Nat) : Int) := by
  have h1 := bits_and_u64_nat x 65535 h (by omega)
  have h2 : x &&& 65535 = x % 65536 := Nat.and_two_pow_sub_one_eq_mod x 16
  rw [h2] at h1
  exact h1
theorem and16i (x : Int) (h0 : 0 ≤ x) (h : x < 18446744073709551616) : bits .and .u64 x 65535 = x % 65536 := by
  obtain ⟨n, rfl⟩ := Int.eq_ofNat_of_zero_le h0
  rw [and16 n (by omega)]
  omega

/-- The number of eight digits. -/
theorem of_dg (hi lo : Nat) (_h1 : hi < 18446744073709551616) (h2 : lo < 18446744073709551616) :
    numV (hi * 18446744073709551616 + lo) = .agg #[.int .u64 ((lo : Int) % 65536), .int .u64 ((lo : Int) / 65536 % 65536), .int .u64 ((lo : Int) / 4294967296 % 65536), .int .u64 ((lo : Int) / 281474976710656 % 65536),
      .int .u64 ((hi : Int) % 65536), .int .u64 ((hi : Int) / 65536 % 65536), .int .u64 ((hi : Int) / 4294967296 % 65536), .int .u64 ((hi : Int) / 281474976710656 % 65536)] := by
  have e0 : ((dg (hi * 18446744073709551616 + lo) 0 : Nat) : Int) = (lo : Int) % 65536 := by simp only [dg]; omega
  have e1 : ((dg (hi * 18446744073709551616 + lo) 1 : Nat) : Int) = (lo : Int) / 65536 % 65536 := by simp only [dg]; omega
  have e2 : ((dg (hi * 18446744073709551616 + lo) 2 : Nat) : Int) = (lo : Int) / 4294967296 % 65536 := by simp only [dg]; omega
  have e3 : ((dg (hi * 18446744073709551616 + lo) 3 : Nat) : Int) = (lo : Int) / 281474976710656 % 65536 := by simp only [dg]; omega
  have e4 : ((dg (hi * 18446744073709551616 + lo) 4 : Nat) : Int) = (hi : Int) % 65536 := by simp only [dg]; omega
  have e5 : ((dg (hi * 18446744073709551616 + lo) 5 : Nat) : Int) = (hi : Int) / 65536 % 65536 := by simp only [dg]; omega
  have e6 : ((dg (hi * 18446744073709551616 + lo) 6 : Nat) : Int) = (hi : Int) / 4294967296 % 65536 := by simp only [dg]; omega
  have e7 : ((dg (hi * 18446744073709551616 + lo) 7 : Nat) : Int) = (hi : Int) / 281474976710656 % 65536 := by simp only [dg]; omega
  simp only [numV, e0, e1, e2, e3, e4, e5, e6, e7]

/-- Eight digits, put together. -/
def put8 (a b c d e f g h : Nat) : Nat := a + 65536 * (b + 65536 * (c + 65536 * (d + 65536 * (e + 65536 * (f + 65536 * (g + 65536 * h))))))
theorem dg0 (a T : Nat) : dg (a + 65536 * T) 0 = a % 65536 := by simp only [dg]; omega
theorem dgS (a T i : Nat) : dg (a + 65536 * T) (i + 1) = dg (a / 65536 + T) i := by
  simp only [dg, Nat.pow_succ']
  rw [← Nat.div_div_eq_div_mul, show (a + 65536 * T) / 65536 = a / 65536 + T from by omega]
theorem numV_zero (N i : Nat) (h : N < 65536 ^ i) : dg N i = 0 := by simp only [dg]; rw [Nat.div_eq_of_lt h]

theorem dgT (a b T i : Nat) : dg (a + 65536 * (b + 65536 * T)) (i + 1) = dg ((b + a / 65536) + 65536 * T) i := by
  rw [dgS, show a / 65536 + (b + 65536 * T) = (b + a / 65536) + 65536 * T from by omega]
theorem dgL (a b i : Nat) : dg (a + 65536 * b) (i + 1) = dg (b + a / 65536) i := by
  rw [dgS, Nat.add_comm]
theorem dgZ (a : Nat) : dg a 0 = a % 65536 := by simp only [dg]; omega
theorem quT (a b T i : Nat) : (a + 65536 * (b + 65536 * T)) / 65536 ^ (i + 1) = ((b + a / 65536) + 65536 * T) / 65536 ^ i := by
  rw [Nat.pow_succ', ← Nat.div_div_eq_div_mul, show (a + 65536 * (b + 65536 * T)) / 65536 = (b + a / 65536) + 65536 * T from by omega]
theorem quL (a b i : Nat) : (a + 65536 * b) / 65536 ^ (i + 1) = (b + a / 65536) / 65536 ^ i := by
  rw [Nat.pow_succ', ← Nat.div_div_eq_div_mul, show (a + 65536 * b) / 65536 = b + a / 65536 from by omega]
theorem put8_digits (s0 s1 s2 s3 s4 s5 s6 s7 : Nat) : dg (put8 s0 s1 s2 s3 s4 s5 s6 s7) 0 = s0 % 65536 ∧ dg (put8 s0 s1 s2 s3 s4 s5 s6 s7) 1 = (s1 + s0 / 65536) % 65536 ∧ dg (put8 s0 s1 s2 s3 s4 s5 s6 s7) 2 = (s2 + (s1 + s0 / 65536) / 65536) % 65536 ∧ dg (put8 s0 s1 s2 s3 s4 s5 s6 s7) 3 = (s3 + (s2 + (s1 + s0 / 65536) / 65536) / 65536) % 65536 ∧ dg (put8 s0 s1 s2 s3 s4 s5 s6 s7) 4 = (s4 + (s3 + (s2 + (s1 + s0 / 65536) / 65536) / 65536) / 65536) % 65536 ∧ dg (put8 s0 s1 s2 s3 s4 s5 s6 s7) 5 = (s5 + (s4 + (s3 + (s2 + (s1 + s0 / 65536) / 65536) / 65536) / 65536) / 65536) % 65536 ∧ dg (put8 s0 s1 s2 s3 s4 s5 s6 s7) 6 = (s6 + (s5 + (s4 + (s3 + (s2 + (s1 + s0 / 65536) / 65536) / 65536) / 65536) / 65536) / 65536) % 65536 ∧ dg (put8 s0 s1 s2 s3 s4 s5 s6 s7) 7 = (s7 + (s6 + (s5 + (s4 + (s3 + (s2 + (s1 + s0 / 65536) / 65536) / 65536) / 65536) / 65536) / 65536) / 65536) % 65536 ∧ put8 s0 s1 s2 s3 s4 s5 s6 s7 / 65536 ^ 8 = (s7 + (s6 + (s5 + (s4 + (s3 + (s2 + (s1 + s0 / 65536) / 65536) / 65536) / 65536) / 65536) / 65536) / 65536) / 65536 := by
  refine ⟨?_, ?_, ?_, ?_, ?_, ?_, ?_, ?_, ?_⟩ <;> unfold put8 <;> (repeat (first | rw [dgT] | rw [quT])) <;> (first | rw [dg0] | rw [dgL, dgZ] | rw [quL, Nat.pow_one])
theorem put8_norm (s0 s1 s2 s3 s4 s5 s6 s7 : Nat) : numV (put8 s0 s1 s2 s3 s4 s5 s6 s7) = .agg #[.int .u64 ((s0 : Int) % 65536), .int .u64 (((s1 : Int) + (s0 : Int) / 65536) % 65536), .int .u64 (((s2 : Int) + ((s1 : Int) + (s0 : Int) / 65536) / 65536) % 65536), .int .u64 (((s3 : Int) + ((s2 : Int) + ((s1 : Int) + (s0 : Int) / 65536) / 65536) / 65536) % 65536), .int .u64 (((s4 : Int) + ((s3 : Int) + ((s2 : Int) + ((s1 : Int) + (s0 : Int) / 65536) / 65536) / 65536) / 65536) % 65536), .int .u64 (((s5 : Int) + ((s4 : Int) + ((s3 : Int) + ((s2 : Int) + ((s1 : Int) + (s0 : Int) / 65536) / 65536) / 65536) / 65536) / 65536) % 65536), .int .u64 (((s6 : Int) + ((s5 : Int) + ((s4 : Int) + ((s3 : Int) + ((s2 : Int) + ((s1 : Int) + (s0 : Int) / 65536) / 65536) / 65536) / 65536) / 65536) / 65536) % 65536), .int .u64 (((s7 : Int) + ((s6 : Int) + ((s5 : Int) + ((s4 : Int) + ((s3 : Int) + ((s2 : Int) + ((s1 : Int) + (s0 : Int) / 65536) / 65536) / 65536) / 65536) / 65536) / 65536) / 65536) % 65536)] := by
  obtain ⟨h0, h1, h2, h3, h4, h5, h6, h7, _⟩ := put8_digits s0 s1 s2 s3 s4 s5 s6 s7
  simp only [numV, h0, h1, h2, h3, h4, h5, h6, h7, Int.natCast_emod, Int.natCast_ediv, Int.natCast_add, Int.cast_ofNat_Int]
theorem put8_over (s0 s1 s2 s3 s4 s5 s6 s7 : Nat) : ((put8 s0 s1 s2 s3 s4 s5 s6 s7 / 65536 ^ 8 : Nat) : Int) = ((s7 : Int) + ((s6 : Int) + ((s5 : Int) + ((s4 : Int) + ((s3 : Int) + ((s2 : Int) + ((s1 : Int) + (s0 : Int) / 65536) / 65536) / 65536) / 65536) / 65536) / 65536) / 65536) / 65536 := by
  obtain ⟨_, _, _, _, _, _, _, _, h⟩ := put8_digits s0 s1 s2 s3 s4 s5 s6 s7
  simp only [h, Int.natCast_ediv, Int.natCast_add, Int.cast_ofNat_Int]
theorem put8_dg (N : Nat) (h : N < 340282366920938463463374607431768211456) : put8 (dg N 0) (dg N 1) (dg N 2) (dg N 3) (dg N 4) (dg N 5) (dg N 6) (dg N 7) = N := by
  simp only [put8, dg]
  omega
theorem lx_hi {a b S T : Nat} (ha : a < 65536) (h : S < T) : a + 65536 * S < b + 65536 * T := by omega
theorem lx_lo {a b T : Nat} (h : a < b) : a + 65536 * T < b + 65536 * T := by omega
def cmpN (M N : Nat) : Int := if M < N then -1 else if N < M then 1 else 0
theorem cmpN_lt {M N : Nat} (h : M < N) : cmpN M N = -1 := by simp [cmpN, h]
theorem cmpN_gt {M N : Nat} (h : N < M) : cmpN M N = 1 := by rw [cmpN, if_neg (by omega), if_pos h]
theorem cmpN_eq {M N : Nat} (h : M = N) : cmpN M N = 0 := by simp [cmpN, h]
theorem pb {x y : Nat} (hx : x < 65536) (hy : y < 65536) : (x : Int) * y ≤ 4294836225 := by
  have h := Nat.mul_le_mul (show x ≤ 65535 by omega) (show y ≤ 65535 by omega)
  have e : (x : Int) * y = ((x * y : Nat) : Int) := by simp
  rw [e]; omega
theorem pb0 {x y : Nat} : 0 ≤ (x : Int) * y := by
  have e : (x : Int) * y = ((x * y : Nat) : Int) := by simp
  rw [e]; omega
def row8 (f : Nat → Nat) : Array Value := #[.int .u64 (f 0 : Nat), .int .u64 (f 1 : Nat), .int .u64 (f 2 : Nat), .int .u64 (f 3 : Nat), .int .u64 (f 4 : Nat), .int .u64 (f 5 : Nat), .int .u64 (f 6 : Nat), .int .u64 (f 7 : Nat)]
theorem row8_get (f : Nat → Nat) (j : Nat) (h : j < 8) : (row8 f)[j]? = some (.int .u64 (f j : Nat)) := by
  have : j = 0 ∨ j = 1 ∨ j = 2 ∨ j = 3 ∨ j = 4 ∨ j = 5 ∨ j = 6 ∨ j = 7 := by omega
  rcases this with rfl | rfl | rfl | rfl | rfl | rfl | rfl | rfl <;> rfl
def upd (f : Nat → Nat) (j v : Nat) : Nat → Nat := fun i => if i = j then v else f i
theorem row8_set (f : Nat → Nat) (j v : Nat) (h : j < 8) : (row8 f).setIfInBounds j (.int .u64 (v : Nat)) = row8 (upd f j v) := by
  have : j = 0 ∨ j = 1 ∨ j = 2 ∨ j = 3 ∨ j = 4 ∨ j = 5 ∨ j = 6 ∨ j = 7 := by omega
  rcases this with rfl | rfl | rfl | rfl | rfl | rfl | rfl | rfl <;> rfl
theorem row8_cell {w : World} {b : Nat} {f : Nat → Nat} {t : TypeId} (h : w.heap[b]? = some (.cells (row8 f) t (0, 0))) (j : Nat) (hj : j < 8) : w.cell? ⟨b, j, none⟩ = some (.int .u64 (f j : Nat)) := by
  simp only [World.cell?, h]; exact row8_get f j hj
theorem row8_free {w : World} {b : Nat} {f : Nat → Nat} {t : TypeId} (h : w.heap[b]? = some (.cells (row8 f) t (0, 0))) (j : Nat) : w.frozen? ⟨b, j, none⟩ = false := by
  simp [World.frozen?, h]
theorem row8_store {w : World} {b : Nat} {f : Nat → Nat} {t : TypeId} (h : w.heap[b]? = some (.cells (row8 f) t (0, 0))) (j v : Nat) (hj : j < 8) :
    (w.setCell ⟨b, j, none⟩ (.int .u64 (v : Nat))).heap[b]? = some (.cells (row8 (upd f j v)) t (0, 0)) := by
  have hlt := lt_of_block h
  have h' : w.heap[b] = .cells (row8 f) t (0, 0) := by simpa [Array.getElem?_eq_getElem hlt] using h
  show (w.heap.modify b _)[b]? = _
  rw [Array.getElem?_eq_getElem (by simpa using hlt), Array.getElem_modify_self, h', ← row8_set f j v hj]
  rfl
/-- What eight digits come to. -/
def val8 (f : Nat → Nat) : Nat := put8 (f 0) (f 1) (f 2) (f 3) (f 4) (f 5) (f 6) (f 7)
theorem val8_upd (f : Nat → Nat) (j v : Nat) (h : j < 8) : val8 (upd f j (f j + v)) = val8 f + v * 65536 ^ j := by
  have : j = 0 ∨ j = 1 ∨ j = 2 ∨ j = 3 ∨ j = 4 ∨ j = 5 ∨ j = 6 ∨ j = 7 := by omega
  rcases this with rfl | rfl | rfl | rfl | rfl | rfl | rfl | rfl <;> unfold val8 upd put8 <;> simp only [Nat.reduceEqDiff, reduceIte, Nat.reducePow] <;> generalize f 0 = x0, f 1 = x1, f 2 = x2, f 3 = x3, f 4 = x4, f 5 = x5, f 6 = x6, f 7 = x7 <;> omega
/-- The sums on the way: which products they have. -/
structure Part (a b i k : Nat) (f : Nat → Nat) : Prop where
  i4 : i ≤ 4
  k4 : k ≤ 4
  val : val8 f = (a % 65536 ^ i) * b + dg a i * 65536 ^ i * (b % 65536 ^ k)
  le : ∀ j, f j ≤ 4294836225 * (4 * i + k)
theorem pow4_mod {a : Nat} (h : a < 18446744073709551616) : a % 65536 ^ 4 = a := by
  simp only [Nat.reducePow]; omega
theorem mod_step (a i : Nat) : a % 65536 ^ (i + 1) = a % 65536 ^ i + dg a i * 65536 ^ i := by
  rw [Nat.pow_succ, Nat.mod_mul, dg, Nat.mul_comm (65536 ^ i)]
theorem Part.start (a b : Nat) (f : Nat → Nat) (h : ∀ j, f j = 0) : Part a b 0 0 f :=
  ⟨by omega, by omega, by simp [val8, put8, h, Nat.mod_one], fun j => by rw [h]; exact Nat.zero_le _⟩
theorem Part.next {a b i k : Nat} {f : Nat → Nat} (h : Part a b i k f) (hk : k < 4) (hi : i < 4) : Part a b i (k + 1) (upd f (i + k) (f (i + k) + dg a i * dg b k)) := by
  refine ⟨h.i4, by omega, ?_, fun j => ?_⟩
  · rw [val8_upd _ _ _ (by omega), h.val, mod_step b k, Nat.pow_add]
    generalize b % 65536 ^ k = z
    generalize 65536 ^ i = p, 65536 ^ k = q, dg a i = x, dg b k = y
    grind
  · have h1 := h.le j
    have h2 := h.le (i + k)
    have h3 := Nat.mul_le_mul (show dg a i ≤ 65535 by have := dg_lt a i; omega) (show dg b k ≤ 65535 by have := dg_lt b k; omega)
    have h4 : 4294836225 * (4 * i + (k + 1)) = 4294836225 * (4 * i + k) + 4294836225 := by rw [← Nat.add_assoc, Nat.mul_add, Nat.mul_one]
    rw [h4]
    unfold upd
    split
    · exact Nat.add_le_add h2 h3
    · exact Nat.le_trans h1 (Nat.le_add_right _ _)
theorem Part.row {a b i : Nat} {f : Nat → Nat} (h : Part a b i 4 f) (hb : b < 18446744073709551616) (hi : i < 4) : Part a b (i + 1) 0 f := by
  refine ⟨by omega, by omega, ?_, fun j => by rw [show 4 * (i + 1) + 0 = 4 * i + 4 from by omega]; exact h.le j⟩
  have e : b % 65536 ^ 4 = b := pow4_mod hb
  rw [h.val, e, mod_step a i, Nat.pow_zero, Nat.mod_one, Nat.mul_zero, Nat.add_zero, Nat.add_mul]
theorem Part.done {a b : Nat} {f : Nat → Nat} (h : Part a b 4 0 f) (ha : a < 18446744073709551616) : val8 f = a * b := by
  have e : a % 65536 ^ 4 = a := pow4_mod ha
  rw [h.val, e, Nat.pow_zero, Nat.mod_one, Nat.mul_zero, Nat.add_zero]


theorem val8_set (f : Nat → Nat) (j v : Nat) (h : j < 8) : val8 (upd f j v) + f j * 65536 ^ j = val8 f + v * 65536 ^ j := by
  have : j = 0 ∨ j = 1 ∨ j = 2 ∨ j = 3 ∨ j = 4 ∨ j = 5 ∨ j = 6 ∨ j = 7 := by omega
  rcases this with rfl | rfl | rfl | rfl | rfl | rfl | rfl | rfl <;> unfold val8 upd put8 <;> simp only [Nat.reduceEqDiff, reduceIte, Nat.reducePow] <;> generalize f 0 = x0, f 1 = x1, f 2 = x2, f 3 = x3, f 4 = x4, f 5 = x5, f 6 = x6, f 7 = x7 <;> omega
theorem upd_upd (f : Nat → Nat) (j u v : Nat) : upd (upd f j u) j v = upd f j v := by
  funext i; unfold upd; split <;> rfl
/-- The carry goes up: what is put together stays the same. -/
structure Carry (N j : Nat) (g : Nat → Nat) (c : Nat) : Prop where
  j8 : j ≤ 8
  val : val8 g + c * 65536 ^ j = N
  dig : ∀ i, i < j → g i < 65536
  le : ∀ i, g i ≤ 100000000000
  cle : c ≤ 100000000000
theorem Carry.next {N j c : Nat} {g : Nat → Nat} (h : Carry N j g c) (hj : j < 8) : Carry N (j + 1) (upd g j ((g j + c) % 65536)) ((g j + c) / 65536) := by
  have hl := h.le j
  have hc := h.cle
  refine ⟨by omega, ?_, fun i hi => ?_, fun i => ?_, by omega⟩
  · have h1 := val8_set g j ((g j + c) % 65536) hj
    have h2 := h.val
    have h3 : (g j + c) = 65536 * ((g j + c) / 65536) + (g j + c) % 65536 := by omega
    generalize (g j + c) % 65536 = d at *
    generalize (g j + c) / 65536 = q at *
    rw [Nat.pow_succ]
    generalize val8 (upd g j d) = V' at *
    generalize val8 g = V at *
    generalize 65536 ^ j = p at *
    have h4 : (g j + c) * p = (65536 * q + d) * p := congrArg (· * p) h3
    rw [Nat.add_mul, Nat.add_mul] at h4
    rw [← Nat.mul_assoc, Nat.mul_right_comm, ← Nat.mul_comm 65536 q, ]
    omega
  · unfold upd
    split
    · omega
    · exact h.dig i (by omega)
  · unfold upd
    split
    · omega
    · exact h.le i
theorem Carry.ends {N c : Nat} {g : Nat → Nat} (h : Carry N 8 g c) (hN : N < 340282366920938463463374607431768211456) : numV N = .agg (row8 g) := by
  have d0 := h.dig 0 (by omega)
  have d1 := h.dig 1 (by omega)
  have d2 := h.dig 2 (by omega)
  have d3 := h.dig 3 (by omega)
  have d4 := h.dig 4 (by omega)
  have d5 := h.dig 5 (by omega)
  have d6 := h.dig 6 (by omega)
  have d7 := h.dig 7 (by omega)
  have e : val8 g = N := by
    have h1 := h.val
    have h2 : N < 65536 ^ 8 := by simp only [Nat.reducePow]; exact hN
    generalize 65536 ^ 8 = K at h1 h2
    rcases Nat.eq_zero_or_pos c with hc | hc
    · rw [hc, Nat.zero_mul, Nat.add_zero] at h1; exact h1
    · have h3 := Nat.le_mul_of_pos_left K hc
      omega
  rw [← e]
  unfold val8
  obtain ⟨h0, h1, h2, h3, h4, h5, h6, h7, _⟩ := put8_digits (g 0) (g 1) (g 2) (g 3) (g 4) (g 5) (g 6) (g 7)
  simp only [numV, row8, h0, h1, h2, h3, h4, h5, h6, h7]
  generalize g 0 = x0, g 1 = x1, g 2 = x2, g 3 = x3, g 4 = x4, g 5 = x5, g 6 = x6, g 7 = x7 at *
  have q0 : x0 / 65536 = 0 := by omega
  have q1 : x1 / 65536 = 0 := by omega
  have q2 : x2 / 65536 = 0 := by omega
  have q3 : x3 / 65536 = 0 := by omega
  have q4 : x4 / 65536 = 0 := by omega
  have q5 : x5 / 65536 = 0 := by omega
  have q6 : x6 / 65536 = 0 := by omega
  simp only [q0, q1, q2, q3, q4, q5, q6, Nat.add_zero, Nat.mod_eq_of_lt d0, Nat.mod_eq_of_lt d1, Nat.mod_eq_of_lt d2, Nat.mod_eq_of_lt d3, Nat.mod_eq_of_lt d4, Nat.mod_eq_of_lt d5, Nat.mod_eq_of_lt d6, Nat.mod_eq_of_lt d7]
theorem dg_hi (N : Nat) (h : N < 340282366920938463463374607431768211456) : ((dg N 7 * 65536 + dg N 6) * 65536 + dg N 5) * 65536 + dg N 4 = N / 18446744073709551616 := by
  simp only [dg, Nat.reducePow]
  omega
theorem dg_low (N : Nat) : ((dg N 3 * 65536 + dg N 2) * 65536 + dg N 1) * 65536 + dg N 0 = N % 18446744073709551616 := by
  simp only [dg, Nat.reducePow]
  omega

end Go.Proofs.Ytncbieaobadekaa
