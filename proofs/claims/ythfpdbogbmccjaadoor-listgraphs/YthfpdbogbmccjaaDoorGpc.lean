/- The library's count of ones tells how many ones there are. -/
import Derived.Test.YthfpdbogbmccjaaDoorGw
namespace Go.Proofs.YthfpdbogbmccjaaDoor
open Go.RowKit Gm
set_option linter.unusedSectionVars false

/-- Byte by byte. -/
def hB (t : Nat → Nat) : Nat → Nat → Nat
  | 0, _ => 0
  | n + 1, x => t (x % 256) + 256 * hB t n (x / 256)
def rep (m : Nat) : Nat → Nat
  | 0 => 0
  | n + 1 => m + 256 * rep m n
theorem and_split {a b : Nat} (m M : Nat) (hm : m < 256) : (a + 256 * b) &&& (m + 256 * M) = ((a % 256) &&& m) + 256 * ((a / 256 + b) &&& M) := by
  have e1 : (a + 256 * b) = (a / 256 + b) * 2 ^ 8 + a % 256 := by omega
  have e2 : (m + 256 * M) = M * 2 ^ 8 + m := by omega
  have hlt : (a % 256) &&& m < 256 := Nat.lt_of_le_of_lt Nat.and_le_right hm
  have e3 : ∀ z w : Nat, z % 256 = w % 256 → z / 256 = w / 256 → z = w := by intro z w h1 h2; omega
  apply e3
  · rw [show (256 : Nat) = 2 ^ 8 by rfl, Nat.and_mod_two_pow, show (2 : Nat) ^ 8 = 256 by rfl]
    rw [show (a + 256 * b) % 256 = a % 256 by omega, show (m + 256 * M) % 256 = m by omega]
    omega
  · rw [show (256 : Nat) = 2 ^ 8 by rfl, Nat.and_div_two_pow, show (2 : Nat) ^ 8 = 256 by rfl]
    rw [show (a + 256 * b) / 256 = a / 256 + b by omega, show (m + 256 * M) / 256 = M by omega]
    omega
def t1 (b : Nat) : Nat := (b / 2 &&& 85) + (b &&& 85)
def t2 (b : Nat) : Nat := (b / 4 &&& 51) + (b &&& 51)
def t3 (b : Nat) : Nat := (b / 16 + b) % 16
theorem k1 : ∀ b, b < 256 → ∀ c, c < 2 → (b / 2 + 128 * c) &&& 85 = b / 2 &&& 85 := by decide +kernel
theorem k2 : ∀ b, b < 256 → ∀ c, c < 4 → (b / 4 + 64 * c) &&& 51 = b / 4 &&& 51 := by decide +kernel
theorem r1 (n : Nat) : ∀ x, (x / 2 &&& rep 85 n) + (x &&& rep 85 n) = hB t1 n x := by
  induction n with
  | zero => intro x; simp [rep, hB]
  | succ n ih =>
    intro x
    have a1 := and_split (a := x % 256) (b := x / 256) 85 (rep 85 n) (by omega)
    have a2 := and_split (a := x / 2 % 256) (b := x / 2 / 256) 85 (rep 85 n) (by omega)
    rw [show x % 256 + 256 * (x / 256) = x by omega, show x % 256 % 256 = x % 256 by omega, show x % 256 / 256 + x / 256 = x / 256 by omega] at a1
    rw [show x / 2 % 256 + 256 * (x / 2 / 256) = x / 2 by omega, show x / 2 % 256 % 256 = x % 256 / 2 + 128 * (x / 256 % 2) by omega, show x / 2 % 256 / 256 + x / 2 / 256 = x / 256 / 2 by omega, k1 _ (by omega) _ (by omega)] at a2
    have := ih (x / 256)
    rw [rep, a1, a2, hB, ← this, t1]
    omega
theorem r2 (n : Nat) : ∀ x, (x / 4 &&& rep 51 n) + (x &&& rep 51 n) = hB t2 n x := by
  induction n with
  | zero => intro x; simp [rep, hB]
  | succ n ih =>
    intro x
    have a1 := and_split (a := x % 256) (b := x / 256) 51 (rep 51 n) (by omega)
    have a2 := and_split (a := x / 4 % 256) (b := x / 4 / 256) 51 (rep 51 n) (by omega)
    rw [show x % 256 + 256 * (x / 256) = x by omega, show x % 256 % 256 = x % 256 by omega, show x % 256 / 256 + x / 256 = x / 256 by omega] at a1
    rw [show x / 4 % 256 + 256 * (x / 4 / 256) = x / 4 by omega, show x / 4 % 256 % 256 = x % 256 / 4 + 64 * (x / 256 % 4) by omega, show x / 4 % 256 / 256 + x / 4 / 256 = x / 256 / 4 by omega, k2 _ (by omega) _ (by omega)] at a2
    have := ih (x / 256)
    rw [rep, a1, a2, hB, ← this, t2]
    omega
theorem hB_comp {s t : Nat → Nat} (ht : ∀ b, b < 256 → t b < 256) (n : Nat) : ∀ x, hB s n (hB t n x) = hB (fun b => s (t b)) n x := by
  induction n with
  | zero => intro x; rfl
  | succ n ih =>
    intro x
    have := ht (x % 256) (by omega)
    rw [hB, hB, hB, show (t (x % 256) + 256 * hB t n (x / 256)) % 256 = t (x % 256) by omega, show (t (x % 256) + 256 * hB t n (x / 256)) / 256 = hB t n (x / 256) by omega, ih]
theorem r3 {t : Nat → Nat} (ht : ∀ b, b < 256 → t b / 16 ≤ 4 ∧ t b % 16 ≤ 4) (n : Nat) : ∀ x, (hB t n x / 16 + hB t n x) &&& rep 15 n = hB (fun b => t3 (t b)) n x := by
  induction n with
  | zero => intro x; simp [rep]; rfl
  | succ n ih =>
    intro x
    have h0 := ht (x % 256) (by omega)
    have hR : hB t n (x / 256) % 16 ≤ 4 := by
      cases n with
      | zero => simp [hB]
      | succ n =>
        have := ht (x / 256 % 256) (by omega)
        rw [hB]
        omega
    have hi := ih (x / 256)
    rw [hB, hB, rep]
    generalize hB t n (x / 256) = R at *
    have a1 := and_split (a := t (x % 256) / 16 + t (x % 256) + 16 * (R % 16)) (b := R / 16 + R) 15 (rep 15 n) (by omega)
    rw [show (t (x % 256) + 256 * R) / 16 + (t (x % 256) + 256 * R) = t (x % 256) / 16 + t (x % 256) + 16 * (R % 16) + 256 * (R / 16 + R) by omega, a1, show (t (x % 256) / 16 + t (x % 256) + 16 * (R % 16)) / 256 + (R / 16 + R) = R / 16 + R by omega, hi]
    have e : (t (x % 256) / 16 + t (x % 256) + 16 * (R % 16)) % 256 &&& 15 = t3 (t (x % 256)) := by
      rw [show (15 : Nat) = 2 ^ 4 - 1 by rfl, Nat.and_two_pow_sub_one_eq_mod, t3]
      omega
    rw [e]
/-- How many ones there are among the first n bits. -/
def cnt : Nat → Nat → Nat
  | 0, _ => 0
  | n + 1, x => x % 2 + cnt n (x / 2)
theorem cnt_bl (n : Nat) : ∀ x, cnt n x = (bl (fun j => x.testBit j) n).length := by
  induction n with
  | zero => intro x; rfl
  | succ n ih =>
    intro x
    rw [cnt, ih (x / 2)]
    unfold bl
    have e : (fun j => x.testBit j) ∘ Nat.succ = fun j => (x / 2).testBit j := by
      funext j
      simp only [Function.comp, Nat.succ_eq_add_one, Nat.testBit_add_one]
    rw [List.range_succ_eq_map, List.filter_cons, List.filter_map, e]
    have h0 : x.testBit 0 = decide (x % 2 = 1) := Nat.testBit_zero x
    rcases Nat.mod_two_eq_zero_or_one x with h | h
    · rw [h0, h]; simp
    · rw [h0, h]; simp; omega
theorem cnt_add (m n : Nat) : ∀ x, cnt (m + n) x = cnt m x + cnt n (x / 2 ^ m) := by
  induction m with
  | zero => intro x; simp [cnt]
  | succ m ih =>
    intro x
    rw [show m + 1 + n = (m + n) + 1 by omega, cnt, cnt, ih, Nat.div_div_eq_div_mul, show 2 * 2 ^ m = 2 ^ (m + 1) by rw [Nat.pow_succ]; omega]
    omega
theorem cnt_mod (n : Nat) : ∀ x, cnt n (x % 2 ^ n) = cnt n x := by
  induction n with
  | zero => intro x; rfl
  | succ n ih =>
    intro x
    rw [cnt, cnt, ← ih (x / 2)]
    have e1 : x % 2 ^ (n + 1) % 2 = x % 2 := Nat.mod_mod_of_dvd x ⟨2 ^ n, by rw [Nat.pow_succ]; omega⟩
    have e2 : x % 2 ^ (n + 1) / 2 = x / 2 % 2 ^ n := by
      rw [Nat.pow_succ, Nat.mul_comm, Nat.mod_mul_right_div_self]
    rw [e1, e2]
theorem pop8 : ∀ b, b < 256 → t3 (t2 (t1 b)) = cnt 8 b := by decide +kernel
theorem l1 : ∀ b, b < 256 → t1 b < 256 := by decide +kernel
theorem l2 : ∀ b, b < 256 → t2 (t1 b) ≤ 68 ∧ t2 (t1 b) / 16 ≤ 4 ∧ t2 (t1 b) % 16 ≤ 4 := by decide +kernel
theorem l3 : ∀ b, b < 256 → t3 (t2 (t1 b)) ≤ 8 := by decide +kernel
theorem hB_le {t : Nat → Nat} {c : Nat} (ht : ∀ b, b < 256 → t b ≤ c) (n : Nat) : ∀ x, hB t n x ≤ rep c n := by
  induction n with
  | zero => intro x; exact Nat.le_refl _
  | succ n ih =>
    intro x
    have h1 := ht (x % 256) (by omega)
    have h2 := ih (x / 256)
    rw [hB, rep]
    omega
theorem wrapU {z : Nat} (h : z < 18446744073709551616) : IntKind.u64.wrap (z : Int) = z := by rw [IntKind.wrap_u64]; omega
theorem s1_is (x : Nat) (hx : x < 18446744073709551616) : s1 (x : Int) = ((hB t1 8 x : Nat) : Int) := by
  unfold s1
  have e : (6148914691236517205 : Int) = ((rep 85 8 : Nat) : Int) := by decide +kernel
  have h5 : rep 85 8 < 18446744073709551616 := by decide +kernel
  rw [show (x : Int) / 2 = ((x / 2 : Nat) : Int) by omega, e, bits_and_u64_nat _ _ (by omega) h5, bits_and_u64_nat _ _ hx h5, ← r1]
  have := hB_le (t := t1) (c := 255) (fun b hb => by have := l1 b hb; omega) 8 x
  rw [← r1] at this
  have h6 : rep 255 8 < 18446744073709551616 := by decide +kernel
  rw [← Int.natCast_add, wrapU (by omega)]
theorem s2_is (x : Nat) (hx : x < 18446744073709551616) (hb : hB t2 8 x < 18446744073709551616) : s2 (x : Int) = ((hB t2 8 x : Nat) : Int) := by
  unfold s2
  have e : (3689348814741910323 : Int) = ((rep 51 8 : Nat) : Int) := by decide +kernel
  have h5 : rep 51 8 < 18446744073709551616 := by decide +kernel
  rw [show (x : Int) / 4 = ((x / 4 : Nat) : Int) by omega, e, bits_and_u64_nat _ _ (by omega) h5, bits_and_u64_nat _ _ hx h5, ← r2]
  rw [← r2] at hb
  rw [← Int.natCast_add, wrapU hb]
theorem dv1 (a Q : Nat) (h : a < 256) : (a + 256 * Q) / 256 = Q := by omega
theorem dv2 (a Q : Nat) (h : a < 65536) : (a + 65536 * Q) / 65536 = Q := by omega
theorem dv4 (a Q : Nat) (h : a < 4294967296) : (a + 4294967296 * Q) / 4294967296 = Q := by omega
theorem wr128 (S K : Nat) (hS : S ≤ 64) : wrap64 ((S + 256 * K : Nat) : Int) % 128 = (S : Int) := by unfold wrap64; omega
theorem q4 (y : Nat) (h : y < 6000000000000000000) : s4 (y : Int) = ((y + y / 256 : Nat) : Int) := by unfold s4; rw [show (y : Int) / 256 = ((y / 256 : Nat) : Int) by omega, ← Int.natCast_add, wrapU (by omega)]
theorem q5 (y : Nat) (h : y < 6000000000000000000) : s5 (y : Int) = ((y + y / 65536 : Nat) : Int) := by unfold s5; rw [show (y : Int) / 65536 = ((y / 65536 : Nat) : Int) by omega, ← Int.natCast_add, wrapU (by omega)]
theorem q6 (y : Nat) (h : y < 6000000000000000000) : s6 (y : Int) = ((y + y / 4294967296 : Nat) : Int) := by unfold s6; rw [show (y : Int) / 4294967296 = ((y / 4294967296 : Nat) : Int) by omega, ← Int.natCast_add, wrapU (by omega)]
theorem ones_sum (d0 d1 d2 d3 d4 d5 d6 d7 : Nat) (h0 : d0 ≤ 8) (h1 : d1 ≤ 8) (h2 : d2 ≤ 8) (h3 : d3 ≤ 8) (h4 : d4 ≤ 8) (h5 : d5 ≤ 8) (h6 : d6 ≤ 8) (h7 : d7 ≤ 8) (y : Nat)
    (hy : y = d0 + 256 * (d1 + 256 * (d2 + 256 * (d3 + 256 * (d4 + 256 * (d5 + 256 * (d6 + 256 * d7))))))) : wrap64 (s6 (s5 (s4 (y : Int)))) % 128 = ((d0 + d1 + d2 + d3 + d4 + d5 + d6 + d7 : Nat) : Int) := by
  have g1 : y / 256 = d1 + 256 * (d2 + 256 * (d3 + 256 * (d4 + 256 * (d5 + 256 * (d6 + 256 * d7))))) := by rw [hy]; exact dv1 _ _ (by omega)
  obtain ⟨y4, e4⟩ : ∃ y4, y4 = y + y / 256 := ⟨_, rfl⟩
  have f4 : y4 = d0 + d1 + 256 * (d1 + d2) + 65536 * (d2 + d3 + 256 * (d3 + d4 + 256 * (d4 + d5 + 256 * (d5 + d6 + 256 * (d6 + d7 + 256 * d7))))) := by rw [e4, g1, hy]; clear g1 e4 hy; omega
  rw [q4 y (by rw [hy]; clear g1 e4 f4 hy; omega), ← e4]
  clear e4 g1 hy
  have g2 : y4 / 65536 = d2 + d3 + 256 * (d3 + d4 + 256 * (d4 + d5 + 256 * (d5 + d6 + 256 * (d6 + d7 + 256 * d7)))) := by rw [f4]; exact dv2 _ _ (by omega)
  obtain ⟨y5, e5⟩ : ∃ y5, y5 = y4 + y4 / 65536 := ⟨_, rfl⟩
  have f5 : y5 = d0 + d1 + d2 + d3 + 256 * (d1 + d2 + d3 + d4) + 65536 * (d2 + d3 + d4 + d5) + 16777216 * (d3 + d4 + d5 + d6) + 4294967296 * (d4 + d5 + d6 + d7 + 256 * (d5 + d6 + d7 + 256 * (d6 + d7 + 256 * d7))) := by rw [e5, g2, f4]; clear g2 e5 f4; omega
  rw [q5 y4 (by rw [f4]; clear g2 e5 f5 f4; omega), ← e5]
  clear e5 g2 f4
  have g3 : y5 / 4294967296 = d4 + d5 + d6 + d7 + 256 * (d5 + d6 + d7 + 256 * (d6 + d7 + 256 * d7)) := by rw [f5]; exact dv4 _ _ (by omega)
  have f6 : y5 + y5 / 4294967296 = (d0 + d1 + d2 + d3 + d4 + d5 + d6 + d7) + 256 * ((d1 + d2 + d3 + d4) + 256 * (d2 + d3 + d4 + d5) + 65536 * (d3 + d4 + d5 + d6) + 16777216 * (d4 + d5 + d6 + d7 + 256 * (d5 + d6 + d7 + 256 * (d6 + d7 + 256 * d7))) + (d5 + d6 + d7 + 256 * (d6 + d7 + 256 * d7))) := by rw [g3, f5]; clear g3 f5; omega
  rw [q6 y5 (by rw [f5]; clear g3 f6 f5; omega), f6]
  clear g3 f6 f5
  exact wr128 _ _ (by omega)
theorem cnt_step (n x : Nat) : cnt (8 + n) x = cnt 8 x + cnt n (x / 256) := by
  have := cnt_add 8 n x
  rwa [show (2 : Nat) ^ 8 = 256 from rfl] at this
theorem cnt64 (x : Nat) : cnt 64 x = cnt 8 x + cnt 8 (x / 256) + cnt 8 (x / 256 / 256) + cnt 8 (x / 256 / 256 / 256) + cnt 8 (x / 256 / 256 / 256 / 256) + cnt 8 (x / 256 / 256 / 256 / 256 / 256) + cnt 8 (x / 256 / 256 / 256 / 256 / 256 / 256) + cnt 8 (x / 256 / 256 / 256 / 256 / 256 / 256 / 256) := by
  have a1 := cnt_step 56 x
  have a2 := cnt_step 48 (x / 256)
  have a3 := cnt_step 40 (x / 256 / 256)
  have a4 := cnt_step 32 (x / 256 / 256 / 256)
  have a5 := cnt_step 24 (x / 256 / 256 / 256 / 256)
  have a6 := cnt_step 16 (x / 256 / 256 / 256 / 256 / 256)
  have a7 := cnt_step 8 (x / 256 / 256 / 256 / 256 / 256 / 256)
  simp only [Nat.reduceAdd] at a1 a2 a3 a4 a5 a6 a7
  rw [a1, a2, a3, a4, a5, a6, a7]
  simp only [Nat.add_assoc]
theorem hB8 (t : Nat → Nat) (x : Nat) : hB t 8 x = t (x % 256) + 256 * (t (x / 256 % 256) + 256 * (t (x / 256 / 256 % 256) + 256 * (t (x / 256 / 256 / 256 % 256) + 256 * (t (x / 256 / 256 / 256 / 256 % 256) + 256 * (t (x / 256 / 256 / 256 / 256 / 256 % 256) + 256 * (t (x / 256 / 256 / 256 / 256 / 256 / 256 % 256) + 256 * t (x / 256 / 256 / 256 / 256 / 256 / 256 / 256 % 256))))))) := by simp only [hB, Nat.mul_zero, Nat.add_zero]
attribute [local irreducible] cnt hB
theorem onI_is (p : Nat → Bool) : onI ((bs p 60 : Nat) : Int) = ((bl p 60).length : Int) := by
  have hx := bs_lt64 p
  have hl : (bl p 60).length = cnt 64 (bs p 60) := by
    rw [cnt_bl]
    have e1 : bl (fun j => (bs p 60).testBit j) 64 = bl (fun j => (bs p 60).testBit j) 60 := bl_skip (by omega) fun j h1 h2 => by
      simp only [testBit_bs]
      rw [decide_eq_false (by omega)]
      rfl
    rw [e1]
    unfold bl
    congr 1
    apply List.filter_congr
    intro j hj
    have : j < 60 := by simpa using hj
    rw [testBit_bs]
    simp [this]
  rw [hl]
  generalize bs p 60 = x at *
  have c1 : hB t2 8 (hB t1 8 x) = hB (fun b => t2 (t1 b)) 8 x := hB_comp l1 8 x
  have c2 : hB (fun b => t2 (t1 b)) 8 x ≤ rep 68 8 := hB_le (fun b hb => (l2 b hb).1) 8 x
  have c3 : hB t1 8 x ≤ rep 255 8 := hB_le (fun b hb => by have := l1 b hb; omega) 8 x
  have k68 : rep 68 8 = 4919131752989213764 := by decide +kernel
  have k255 : rep 255 8 = 18446744073709551615 := by decide +kernel
  have g1 := s1_is x hx
  have g2 := s2_is (hB t1 8 x) (by omega) (by omega)
  have g3 : s3 ((hB (fun b => t2 (t1 b)) 8 x : Nat) : Int) = ((hB (fun b => t3 (t2 (t1 b))) 8 x : Nat) : Int) := by
    unfold s3
    have e : (1085102592571150095 : Int) = ((rep 15 8 : Nat) : Int) := by decide +kernel
    have h5 : rep 15 8 < 18446744073709551616 := by decide +kernel
    have := r3 (t := fun b => t2 (t1 b)) (fun b hb => (l2 b hb).2) 8 x
    rw [← this]
    generalize hB (fun b => t2 (t1 b)) 8 x = y at *
    rw [show (y : Int) / 16 = ((y / 16 : Nat) : Int) by omega, ← Int.natCast_add, wrapU (by omega), e, bits_and_u64_nat _ _ (by omega) h5]
  unfold onI
  rw [g1, g2, c1, g3]
  have hd : ∀ z, cnt 8 (z % 256) ≤ 8 := fun z => by rw [← pop8 _ (by omega)]; exact l3 _ (by omega)
  have hcm : ∀ z, cnt 8 (z % 256) = cnt 8 z := fun z => cnt_mod 8 z
  have hq : hB (fun b => t3 (t2 (t1 b))) 8 x = hB (fun b => cnt 8 b) 8 x := by
    rw [hB8, hB8]
    simp only [pop8 _ (Nat.mod_lt _ (by omega : 256 > 0))]
  rw [hq, ones_sum _ _ _ _ _ _ _ _ (hd _) (hd _) (hd _) (hd _) (hd _) (hd _) (hd _) (hd _) _ (hB8 (fun b => cnt 8 b) x), cnt64]
  simp only [hcm]
end Go.Proofs.YthfpdbogbmccjaaDoor
