/- The plain mathematics of reading needs: cutting at one byte, numbers told in the one way, and that a text that was told is read as it was. -/
import Derived.Test.YtmhidmocmolgfaaDoorNtm
import Derived.Test.YtmhidmocmolgfaaDoorPln
import Derived.Lib.CutLaws
import Derived.Lib.IndexBytes
import Derived.Lib.Join
namespace Go.Proofs.YtmhidmocmolgfaaDoor.Ndm
open Go Txt

/- Cutting at one byte. -/
theorem cut_nil (c : UInt8) : Lib.cut [] [c] = ([], [], false) := by
  unfold Lib.cut
  rw [Lib.index_one]
  rfl
theorem cut_cons (b : UInt8) (l : List UInt8) (c : UInt8) : Lib.cut (b :: l) [c] = if b = c then ([], l, true) else (b :: (Lib.cut l [c]).1, (Lib.cut l [c]).2.1, (Lib.cut l [c]).2.2) := by
  have hge := Lib.indexByte_ge l c
  unfold Lib.cut
  rw [Lib.index_one, Lib.index_one]
  by_cases hb : b = c
  · subst hb
    simp [Lib.indexByte]
  · rw [if_neg hb]
    have e : Lib.indexByte (b :: l) c = if Lib.indexByte l c = -1 then -1 else Lib.indexByte l c + 1 := by
      rw [show Lib.indexByte (b :: l) c = if b == c then 0 else if Lib.indexByte l c == -1 then -1 else Lib.indexByte l c + 1 from rfl, if_neg (by simpa using hb)]
      simp
    rw [e]
    by_cases hn : Lib.indexByte l c = -1
    · rw [if_pos hn, if_neg (by omega), if_neg (by omega)]
    · rw [if_neg hn, if_pos (by omega), if_pos (by omega)]
      obtain ⟨m, hm⟩ := Int.eq_ofNat_of_zero_le (show 0 ≤ Lib.indexByte l c by omega)
      rw [hm]
      simp [show ((m : Int) + 1).toNat = m + 1 by omega]
theorem cut_app : ∀ (x y : List UInt8) (c : UInt8), c ∉ x → Lib.cut (x ++ c :: y) [c] = (x, y, true)
  | [], y, c, _ => by rw [List.nil_append, cut_cons, if_pos rfl]
  | b :: x, y, c, h => by
    have hb : b ≠ c := fun e => h (by simp [e])
    rw [List.cons_append, cut_cons, if_neg hb, cut_app x y c (fun e => h (by simp [e]))]
theorem cut_none : ∀ (x : List UInt8) (c : UInt8), c ∉ x → Lib.cut x [c] = (x, [], false)
  | [], c, _ => cut_nil c
  | b :: x, c, h => by
    have hb : b ≠ c := fun e => h (by simp [e])
    rw [cut_cons, if_neg hb, cut_none x c (fun e => h (by simp [e]))]
theorem cut_true : ∀ (l : List UInt8) (c : UInt8), (Lib.cut l [c]).2.2 = true → l = (Lib.cut l [c]).1 ++ c :: (Lib.cut l [c]).2.1
  | [], c, h => by rw [cut_nil] at h; cases h
  | b :: l, c, h => by
    rw [cut_cons] at h ⊢
    split at h
    · next e => rw [if_pos e, e]; rfl
    · next e =>
      rw [if_neg e]
      exact congrArg (b :: ·) (cut_true l c h)
theorem cut_false : ∀ (l : List UInt8) (c : UInt8), (Lib.cut l [c]).2.2 = false → (Lib.cut l [c]).1 = l ∧ (Lib.cut l [c]).2.1 = []
  | [], c, _ => by rw [cut_nil]; exact ⟨rfl, rfl⟩
  | b :: l, c, h => by
    rw [cut_cons] at h ⊢
    split at h
    · cases h
    · next e =>
      rw [if_neg e]
      have := cut_false l c h
      exact ⟨congrArg (b :: ·) this.1, this.2⟩

/- Numbers in digits. -/
theorem dec_digit (v : Nat) : ∀ n, v ≤ n → ∀ c ∈ Lib.decDigits v, 48 ≤ c.toNat ∧ c.toNat ≤ 57
  | 0, h, c, hc => by
    obtain rfl : v = 0 := by omega
    rw [Lib.decDigits_one (by omega)] at hc
    simp at hc
    subst hc
    decide
  | n + 1, h, c, hc => by
    rw [Lib.decDigits] at hc
    split at hc
    · next hv =>
      rw [List.mem_singleton] at hc
      subst hc
      rw [dgt_small hv, dgt_toNat]
      omega
    · next hv =>
      rw [List.mem_append] at hc
      rcases hc with hc | hc
      · exact dec_digit (v / 10) n (by omega) c hc
      · rw [List.mem_singleton] at hc
        subst hc
        rw [← dgt_mod, dgt_toNat]
        omega
theorem dec_nrd : ∀ (n v : Nat), v ≤ n → nrd (Lib.decDigits v) 0 = some (v : Int)
  | 0, v, h => by
    obtain rfl : v = 0 := by omega
    rw [Lib.decDigits_one (by omega), dgt_small (by omega), nrd_one]
    rfl
  | n + 1, v, h => by
    by_cases hv : v < 10
    · rw [Lib.decDigits_one hv, dgt_small hv, nrd_one, nrd]
      congr 1
      omega
    · rw [Lib.decDigits, dif_neg hv, nrd_append, dec_nrd n (v / 10) (by omega), ← dgt_mod]
      show nrd [dgt v] ((v / 10 : Nat) : Int) = _
      rw [nrd_one, nrd]
      congr 1
      omega
theorem dec_ne (v : Nat) : Lib.decDigits v ≠ [] := by
  rw [Lib.decDigits]
  split <;> simp
theorem dec_head : ∀ (n v : Nat), v ≤ n → 1 ≤ v → (Lib.decDigits v).getD 0 0 ≠ 48
  | 0, v, h, h1 => by omega
  | n + 1, v, h, h1 => by
    by_cases hv : v < 10
    · rw [Lib.decDigits_one hv, dgt_small hv]
      show dgt v ≠ 48
      intro e
      have := congrArg UInt8.toNat e
      rw [dgt_toNat] at this
      simp at this
      omega
    · rw [Lib.decDigits, dif_neg hv]
      have ih := dec_head n (v / 10) (by omega) (by omega)
      have hne := dec_ne (v / 10)
      cases hd : Lib.decDigits (v / 10) with
      | nil => exact absurd hd hne
      | cons a r => rw [hd] at ih; exact ih
theorem pl64_itoa {n : Int} (h0 : 0 ≤ n) (h1 : n ≤ 9223372036854775807) : pl64 (Lib.itoa n) = some n := by
  obtain ⟨v, rfl⟩ := Int.eq_ofNat_of_zero_le h0
  have e : Lib.itoa (v : Int) = Lib.decDigits v := by
    unfold Lib.itoa
    rw [if_neg (by omega)]
    rfl
  rw [e]
  unfold pl64
  rw [if_neg]
  · unfold rd64
    rw [if_neg (dec_ne v), dec_nrd v v (Nat.le_refl _)]
    exact if_pos h1
  · rintro ⟨h2, h3⟩
    rcases Nat.eq_zero_or_pos v with e0 | hp
    · subst e0
      rw [Lib.decDigits_one (by omega)] at h2
      simp at h2
    · exact dec_head v v (Nat.le_refl _) hp h3
theorem snoc_of_ne : ∀ (l : List UInt8), l ≠ [] → ∃ r c, l = r ++ [c] := fun l h => ⟨l.dropLast, l.getLast h, (List.dropLast_concat_getLast h).symm⟩
theorem dec_of_nrd : ∀ (k : Nat) (l : List UInt8) (v : Int), l.length ≤ k → l ≠ [] → ¬ (1 < l.length ∧ l.getD 0 0 = 48) → nrd l 0 = some v → 0 ≤ v ∧ Lib.decDigits v.toNat = l
  | 0, l, v, hk, hne, _, _ => absurd (List.eq_nil_of_length_eq_zero (by omega)) hne
  | k + 1, l, v, hk, hne, hz, hn => by
    obtain ⟨r, c, rfl⟩ := snoc_of_ne l hne
    cases hr : nrd r 0 with
    | none => rw [nrd_append, hr] at hn; cases hn
    | some u =>
      have hs := nrd_snoc (c := c) hr
      rw [hn] at hs
      split at hs
      · next hc =>
        simp only [Option.some.injEq] at hs
        obtain ⟨c1, c2⟩ := hc
        have hcd := byte_of_digit (c := c) (k := c.toNat - 48) (by omega) (by omega)
        by_cases hre : r = []
        · subst hre
          simp only [nrd, Option.some.injEq] at hr
          refine ⟨by omega, ?_⟩
          rw [show v.toNat = c.toNat - 48 by omega, Lib.decDigits_one (by omega), dgt_small (by omega), ← hcd]
          rfl
        · have hlr : 1 ≤ r.length := by
            cases r with
            | nil => exact absurd rfl hre
            | cons _ _ => simp
          have hg : (r ++ [c]).getD 0 0 = r.getD 0 0 := by
            cases r with
            | nil => exact absurd rfl hre
            | cons _ _ => rfl
          have h48 : r.getD 0 0 ≠ 48 := fun e => hz ⟨by simp; omega, by rw [hg]; exact e⟩
          obtain ⟨h0, hd⟩ := dec_of_nrd k r u (by simp at hk; omega) hre (fun e => h48 e.2) hr
          have hu : 1 ≤ u := by
            rcases Int.lt_or_le u 1 with l | l
            · exfalso
              rw [show u.toNat = 0 by omega, Lib.decDigits_one (by omega)] at hd
              rw [← hd] at h48
              exact h48 rfl
            · exact l
          refine ⟨by omega, ?_⟩
          have e1 : v.toNat / 10 = u.toNat := by omega
          have e2 : v.toNat % 10 = c.toNat - 48 := by omega
          rw [Lib.decDigits, dif_neg (by omega), e1, hd, e2, dgt_small (by omega), ← hcd]
      · cases hs
theorem itoa_pl64 {l : List UInt8} {n : Int} (h : pl64 l = some n) : l = Lib.itoa n ∧ 0 ≤ n ∧ n ≤ 9223372036854775807 := by
  unfold pl64 at h
  split at h
  · cases h
  · next hz =>
    unfold rd64 at h
    split at h
    · cases h
    · next hne =>
      cases hn : nrd l 0 with
      | none => rw [hn] at h; cases h
      | some v =>
        rw [hn] at h
        replace h : (if v ≤ 9223372036854775807 then some v else none) = some n := h
        split at h
        · next hv =>
          obtain ⟨h0, hd⟩ := dec_of_nrd l.length l v (Nat.le_refl _) hne hz hn
          cases h
          refine ⟨?_, h0, hv⟩
          unfold Lib.itoa
          rw [if_neg (by omega), hd]
        · cases h
theorem pl64_nil : pl64 [] = none := rfl
theorem itoa_not {n : Int} (h0 : 0 ≤ n) {c : UInt8} (hc : c.toNat < 48 ∨ 57 < c.toNat) : c ∉ Lib.itoa n := by
  unfold Lib.itoa
  rw [if_neg (by omega)]
  intro h
  have := dec_digit n.toNat n.toNat (Nat.le_refl _) c h
  omega

/- Reading. -/
/-- The first kind, from one on, that bears a name; else 3. -/
def fnd (k : Nat) (x : List UInt8) : Nat := if k ≤ 0 ∧ nmB 0 = x then 0 else if k ≤ 1 ∧ nmB 1 = x then 1 else if k ≤ 2 ∧ nmB 2 = x then 2 else 3
def setN (a : N3) (i : Nat) (n : Int) : N3 := match i with
  | 0 => ⟨n, a.y, a.z⟩
  | 1 => ⟨a.x, n, a.z⟩
  | _ => ⟨a.x, a.y, n⟩
/-- Items, read from one kind on. -/
def rdI : Nat → Nat → List UInt8 → N3 → Option N3
  | 0, _, _, _ => none
  | f + 1, k, l, a => match pl64 (Lib.cut (Lib.cut l [44]).1 [61]).2.1 with
    | none => none
    | some n => if fnd k (Lib.cut (Lib.cut l [44]).1 [61]).1 = 3 ∨ n = 0 then none else
      if (Lib.cut l [44]).2.2 = true then rdI f (fnd k (Lib.cut (Lib.cut l [44]).1 [61]).1 + 1) (Lib.cut l [44]).2.1 (setN a (fnd k (Lib.cut (Lib.cut l [44]).1 [61]).1) n)
      else some (setN a (fnd k (Lib.cut (Lib.cut l [44]).1 [61]).1) n)
def rdN (l : List UInt8) : Option N3 := if l = [45] then some nz else rdI 4 0 l nz
theorem fnd_cases (k : Nat) (x : List UInt8) : fnd k x = 3 ∨ k ≤ fnd k x ∧ nmB (fnd k x) = x ∧ fnd k x < 3 := by
  unfold fnd
  split
  · next h => exact Or.inr ⟨h.1, h.2, by omega⟩
  · split
    · next h => exact Or.inr ⟨h.1, h.2, by omega⟩
    · split
      · next h => exact Or.inr ⟨h.1, h.2, by omega⟩
      · exact Or.inl rfl
theorem fnd_at {k i : Nat} (h : k ≤ i) (h3 : i < 3) : fnd k (nmB i) = i := by
  rcases (show i = 0 ∨ i = 1 ∨ i = 2 by omega) with rfl | rfl | rfl
  · unfold fnd
    rw [if_pos ⟨h, rfl⟩]
  · unfold fnd
    rw [if_neg (fun e => absurd e.2 (by decide)), if_pos ⟨h, rfl⟩]
  · unfold fnd
    rw [if_neg (fun e => absurd e.2 (by decide)), if_neg (fun e => absurd e.2 (by decide)), if_pos ⟨h, rfl⟩]
theorem nmB_not (i : Nat) {c : UInt8} (h : c.toNat < 97) : c ∉ nmB i := by
  intro hm
  unfold nmB at hm
  split at hm <;> (simp at hm; rcases hm with rfl | rfl | rfl <;> simp at h)
theorem itN_not (i : Nat) {n : Int} (h0 : 0 ≤ n) : (44 : UInt8) ∉ itN i n := by
  unfold itN
  intro hm
  rw [List.mem_append, List.mem_append] at hm
  rcases hm with hm | hm | hm
  · exact nmB_not i (by decide) hm
  · simp at hm
  · exact itoa_not h0 (Or.inl (by decide)) hm
theorem itN_cut (i : Nat) (n : Int) : Lib.cut (itN i n) [61] = (nmB i, Lib.itoa n, true) := cut_app (nmB i) (Lib.itoa n) 61 (nmB_not i (by decide))
theorem rdI_more {f k i : Nat} {n : Int} {r : List UInt8} {a : N3} (h0 : 0 < n) (h1 : n ≤ 9223372036854775807) (hk : k ≤ i) (h3 : i < 3) : rdI (f + 1) k (itN i n ++ 44 :: r) a = rdI f (i + 1) r (setN a i n) := by
  conv => lhs; unfold rdI
  rw [cut_app _ _ _ (itN_not i (by omega))]
  simp only [itN_cut]
  rw [pl64_itoa (by omega) h1]
  simp only [fnd_at hk h3]
  rw [if_neg (by omega)]
  exact if_pos trivial
theorem rdI_last {f k i : Nat} {n : Int} {a : N3} (h0 : 0 < n) (h1 : n ≤ 9223372036854775807) (hk : k ≤ i) (h3 : i < 3) : rdI (f + 1) k (itN i n) a = some (setN a i n) := by
  unfold rdI
  rw [cut_none _ _ (itN_not i (by omega))]
  simp only [itN_cut]
  rw [pl64_itoa (by omega) h1]
  simp only [fnd_at hk h3]
  rw [if_neg (by omega)]
  rfl
/-- A need's text is read as that need. -/
theorem rdN_txN {a : N3} (h : okN a = true) : rdN (txN a) = some a := by
  obtain ⟨⟨x1, x2⟩, ⟨y1, y2⟩, z1, z2⟩ := okN_iff.1 h
  unfold txN
  by_cases he : itL a 3 = []
  · rw [if_pos he]
    unfold rdN
    rw [if_pos rfl]
    obtain ⟨x, y, z⟩ := a
    replace he : it1 0 x ++ it1 1 y ++ it1 2 z = [] := he
    simp only [List.append_eq_nil_iff] at he
    obtain ⟨⟨h0, h1⟩, h2⟩ := he
    have g : ∀ i n, it1 i n = [] → n = 0 := fun i n e => by
      by_cases hn : n = 0
      · exact hn
      · rw [it1_some hn] at e; cases e
    rw [g 0 x h0, g 1 y h1, g 2 z h2]
    rfl
  · rw [if_neg he]
    unfold rdN
    have hne : Lib.join (itL a 3) [44] ≠ [45] := by
      intro e
      have hl := congrArg List.length e
      have hit : ∀ i n, 4 ≤ (itN i n).length := fun i n => by
        have : (nmB i).length = 3 := by unfold nmB; split <;> rfl
        simp [itN, this]
        omega
      cases hL : itL a 3 with
      | nil => exact he hL
      | cons b L =>
        have hb : b ∈ itL a 3 := by rw [hL]; simp
        have : ∃ i n, b = itN i n := by
          replace hb : b ∈ it1 0 a.x ++ it1 1 a.y ++ it1 2 a.z := hb
          unfold it1 at hb
          simp only [List.mem_append] at hb
          rcases hb with (hb | hb) | hb <;> (split at hb <;> simp at hb <;> exact ⟨_, _, hb⟩)
        obtain ⟨i, n, rfl⟩ := this
        have := hit i n
        rw [hL] at hl
        cases L with
        | nil => rw [Lib.join_one] at hl; simp at hl; omega
        | cons c L => simp [Lib.join, List.intercalate, List.intersperse] at hl; omega
    rw [if_neg hne]
    clear hne
    obtain ⟨x, y, z⟩ := a
    replace he : it1 0 x ++ it1 1 y ++ it1 2 z ≠ [] := he
    show rdI 4 0 (Lib.join (it1 0 x ++ it1 1 y ++ it1 2 z) [44]) nz = some ⟨x, y, z⟩
    have x3 : x ≤ 1099511627776 := x2
    have y3 : y ≤ 1099511627776 := y2
    have z3 : z ≤ 1099511627776 := z2
    have x4 : 0 ≤ x := x1
    have y4 : 0 ≤ y := y1
    have z4 : 0 ≤ z := z1
    have j2 : ∀ p q : List UInt8, Lib.join [p, q] [44] = p ++ 44 :: q := fun p q => by simp [Lib.join, List.intercalate, List.intersperse]
    have j3 : ∀ p q r : List UInt8, Lib.join [p, q, r] [44] = p ++ 44 :: (q ++ 44 :: r) := fun p q r => by simp [Lib.join, List.intercalate, List.intersperse]
    by_cases hx : x = 0 <;> by_cases hy : y = 0 <;> by_cases hz : z = 0
    · subst hx; subst hy; subst hz; exact absurd rfl he
    · rw [it1_zero hx, it1_zero hy, it1_some hz, hx, hy]
      show rdI 4 0 (Lib.join [itN 2 z] [44]) nz = _
      rw [Lib.join_one, rdI_last (by omega) (by omega) (by omega) (by omega)]; rfl
    · rw [it1_zero hx, it1_some hy, it1_zero hz, hx, hz]
      show rdI 4 0 (Lib.join [itN 1 y] [44]) nz = _
      rw [Lib.join_one, rdI_last (by omega) (by omega) (by omega) (by omega)]; rfl
    · rw [it1_zero hx, it1_some hy, it1_some hz, hx]
      show rdI 4 0 (Lib.join [itN 1 y, itN 2 z] [44]) nz = _
      rw [j2, rdI_more (by omega) (by omega) (by omega) (by omega), rdI_last (by omega) (by omega) (by omega) (by omega)]; rfl
    · rw [it1_some hx, it1_zero hy, it1_zero hz, hy, hz]
      show rdI 4 0 (Lib.join [itN 0 x] [44]) nz = _
      rw [Lib.join_one, rdI_last (by omega) (by omega) (by omega) (by omega)]; rfl
    · rw [it1_some hx, it1_zero hy, it1_some hz, hy]
      show rdI 4 0 (Lib.join [itN 0 x, itN 2 z] [44]) nz = _
      rw [j2, rdI_more (by omega) (by omega) (by omega) (by omega), rdI_last (by omega) (by omega) (by omega) (by omega)]; rfl
    · rw [it1_some hx, it1_some hy, it1_zero hz, hz]
      show rdI 4 0 (Lib.join [itN 0 x, itN 1 y] [44]) nz = _
      rw [j2, rdI_more (by omega) (by omega) (by omega) (by omega), rdI_last (by omega) (by omega) (by omega) (by omega)]; rfl
    · rw [it1_some hx, it1_some hy, it1_some hz]
      show rdI 4 0 (Lib.join [itN 0 x, itN 1 y, itN 2 z] [44]) nz = _
      rw [j3, rdI_more (by omega) (by omega) (by omega) (by omega), rdI_more (by omega) (by omega) (by omega) (by omega), rdI_last (by omega) (by omega) (by omega) (by omega)]; rfl

/-- The items from a kind on. -/
def itF (k : Nat) (b : N3) : List (List UInt8) := (if k ≤ 0 then it1 0 b.x else []) ++ ((if k ≤ 1 then it1 1 b.y else []) ++ (if k ≤ 2 then it1 2 b.z else []))
def getN (a : N3) : Nat → Int
  | 0 => a.x
  | 1 => a.y
  | _ => a.z
theorem getN_set {a : N3} {i j : Nat} {n : Int} (hi : i < 3) (hj : j < 3) : getN (setN a i n) j = if j = i then n else getN a j := by
  rcases (show i = 0 ∨ i = 1 ∨ i = 2 by omega) with rfl | rfl | rfl <;> rcases (show j = 0 ∨ j = 1 ∨ j = 2 by omega) with rfl | rfl | rfl <;> rfl
theorem itF_one {b : N3} {k i : Nat} (hk : k ≤ i) (h3 : i < 3) (hn : getN b i ≠ 0) (hz : ∀ j, k ≤ j → j < 3 → j ≠ i → getN b j = 0) : itF k b = [itN i (getN b i)] := by
  obtain ⟨x, y, z⟩ := b
  have z0 := hz 0
  have z1 := hz 1
  have z2 := hz 2
  rcases (show i = 0 ∨ i = 1 ∨ i = 2 by omega) with rfl | rfl | rfl
  · obtain rfl : k = 0 := by omega
    have e1 : y = 0 := z1 (by omega) (by omega) (by omega)
    have e2 : z = 0 := z2 (by omega) (by omega) (by omega)
    subst e1; subst e2
    show it1 0 x ++ ([] ++ []) = _
    rw [it1_some (show x ≠ 0 from hn)]; rfl
  · have e2 : z = 0 := z2 (by omega) (by omega) (by omega)
    subst e2
    rcases (show k = 0 ∨ k = 1 by omega) with rfl | rfl
    · have e0 : x = 0 := z0 (by omega) (by omega) (by omega)
      subst e0
      show [] ++ (it1 1 y ++ []) = _
      rw [it1_some (show y ≠ 0 from hn)]; rfl
    · show [] ++ (it1 1 y ++ []) = _
      rw [it1_some (show y ≠ 0 from hn)]; rfl
  · rcases (show k = 0 ∨ k = 1 ∨ k = 2 by omega) with rfl | rfl | rfl
    · have e0 : x = 0 := z0 (by omega) (by omega) (by omega)
      have e1 : y = 0 := z1 (by omega) (by omega) (by omega)
      subst e0; subst e1
      show [] ++ ([] ++ it1 2 z) = _
      rw [it1_some (show z ≠ 0 from hn)]; rfl
    · have e1 : y = 0 := z1 (by omega) (by omega) (by omega)
      subst e1
      show [] ++ ([] ++ it1 2 z) = _
      rw [it1_some (show z ≠ 0 from hn)]; rfl
    · show [] ++ ([] ++ it1 2 z) = _
      rw [it1_some (show z ≠ 0 from hn)]; rfl
theorem itF_more {b : N3} {k i : Nat} (hk : k ≤ i) (h3 : i < 3) (hn : getN b i ≠ 0) (hz : ∀ j, k ≤ j → j < i → getN b j = 0) : itF k b = itN i (getN b i) :: itF (i + 1) b := by
  obtain ⟨x, y, z⟩ := b
  have z0 := hz 0
  have z1 := hz 1
  rcases (show i = 0 ∨ i = 1 ∨ i = 2 by omega) with rfl | rfl | rfl
  · obtain rfl : k = 0 := by omega
    show it1 0 x ++ (it1 1 y ++ it1 2 z) = _ :: ([] ++ (it1 1 y ++ it1 2 z))
    rw [it1_some (show x ≠ 0 from hn)]; rfl
  · rcases (show k = 0 ∨ k = 1 by omega) with rfl | rfl
    · have e0 : x = 0 := z0 (by omega) (by omega)
      subst e0
      show [] ++ (it1 1 y ++ it1 2 z) = _ :: ([] ++ ([] ++ it1 2 z))
      rw [it1_some (show y ≠ 0 from hn)]; rfl
    · show [] ++ (it1 1 y ++ it1 2 z) = _ :: ([] ++ ([] ++ it1 2 z))
      rw [it1_some (show y ≠ 0 from hn)]; rfl
  · rcases (show k = 0 ∨ k = 1 ∨ k = 2 by omega) with rfl | rfl | rfl
    · have e0 : x = 0 := z0 (by omega) (by omega)
      have e1 : y = 0 := z1 (by omega) (by omega)
      subst e0; subst e1
      show [] ++ ([] ++ it1 2 z) = _ :: ([] ++ ([] ++ []))
      rw [it1_some (show z ≠ 0 from hn)]; rfl
    · have e1 : y = 0 := z1 (by omega) (by omega)
      subst e1
      show [] ++ ([] ++ it1 2 z) = _ :: ([] ++ ([] ++ []))
      rw [it1_some (show z ≠ 0 from hn)]; rfl
    · show [] ++ ([] ++ it1 2 z) = _ :: ([] ++ ([] ++ []))
      rw [it1_some (show z ≠ 0 from hn)]; rfl
theorem item_back {k : Nat} {it : List UInt8} {n : Int} (hp : pl64 (Lib.cut it [61]).2.1 = some n) (hf : fnd k (Lib.cut it [61]).1 ≠ 3) : it = itN (fnd k (Lib.cut it [61]).1) n := by
  rcases fnd_cases k (Lib.cut it [61]).1 with h | ⟨_, h2, _⟩
  · exact absurd h hf
  · cases hc : (Lib.cut it [61]).2.2 with
    | false =>
      rw [(cut_false _ _ hc).2, pl64_nil] at hp
      cases hp
    | true =>
      have e := cut_true _ _ hc
      unfold itN
      rw [h2, ← (itoa_pl64 hp).1]
      exact e
theorem join_two (x p : List UInt8) (q : List (List UInt8)) : Lib.join (x :: p :: q) [44] = x ++ 44 :: Lib.join (p :: q) [44] := by
  simp [Lib.join, List.intercalate, List.intersperse]
/-- What is read is told just so. -/
theorem rdI_back : ∀ (f k : Nat) (l : List UInt8) (a b : N3), (∀ j, k ≤ j → j < 3 → getN a j = 0) → rdI f k l a = some b → (∀ j, j < k → j < 3 → getN b j = getN a j) ∧ (∀ j, k ≤ j → j < 3 → 0 ≤ getN b j ∧ getN b j ≤ 9223372036854775807) ∧ itF k b ≠ [] ∧ l = Lib.join (itF k b) [44]
  | 0, _, _, _, _, _, h => by cases h
  | f + 1, k, l, a, b, hz, h => by
    unfold rdI at h
    split at h
    · cases h
    · next n hp =>
      split at h
      · cases h
      · next hg =>
        have hf : fnd k (Lib.cut (Lib.cut l [44]).1 [61]).1 ≠ 3 := fun e => hg (Or.inl e)
        have hn0 : n ≠ 0 := fun e => hg (Or.inr e)
        have hit := item_back hp hf
        obtain ⟨_, p0, p1⟩ := itoa_pl64 hp
        have hi := fnd_cases k (Lib.cut (Lib.cut l [44]).1 [61]).1
        generalize hI : fnd k (Lib.cut (Lib.cut l [44]).1 [61]).1 = i at *
        obtain ⟨hki, _, hi3⟩ := hi.resolve_left hf
        split at h
        · next hm =>
          have hl := cut_true l 44 hm
          generalize hr : (Lib.cut l [44]).2.1 = r at *
          have ih := rdI_back f (i + 1) r (setN a i n) b (fun j j1 j2 => by rw [getN_set hi3 j2, if_neg (by omega)]; exact hz j (by omega) j2) h
          obtain ⟨i1, i2, i3, i4⟩ := ih
          have hbi : getN b i = n := by rw [i1 i (by omega) hi3, getN_set hi3 hi3, if_pos rfl]
          have hbj : ∀ j, j < i → getN b j = getN a j := fun j hj => by rw [i1 j (by omega) (by omega), getN_set hi3 (by omega), if_neg (by omega)]
          have hmore := itF_more (b := b) hki hi3 (by rw [hbi]; exact hn0) (fun j j1 j2 => by rw [hbj j j2]; exact hz j j1 (by omega))
          refine ⟨fun j j1 j2 => hbj j (by omega), fun j j1 j2 => ?_, by rw [hmore]; simp, ?_⟩
          · rcases (show j < i ∨ j = i ∨ i < j by omega) with q | q | q
            · rw [hbj j q, hz j j1 j2]; omega
            · subst q; rw [hbi]; omega
            · exact i2 j (by omega) j2
          · rw [hmore, hbi, ← hit]
            cases hF : itF (i + 1) b with
            | nil => exact absurd hF i3
            | cons p q =>
              rw [hF] at i4
              rw [join_two, ← i4]
              exact hl
        · next hm =>
          obtain ⟨hl, _⟩ := cut_false l 44 (by simpa using hm)
          cases h
          have hbi : getN (setN a i n) i = n := by rw [getN_set hi3 hi3, if_pos rfl]
          have hbj : ∀ j, j < 3 → j ≠ i → getN (setN a i n) j = getN a j := fun j hj hne => by rw [getN_set hi3 hj, if_neg hne]
          have hone := itF_one (b := setN a i n) hki hi3 (by rw [hbi]; exact hn0) (fun j j1 j2 j3 => by rw [hbj j j2 j3]; exact hz j j1 j2)
          refine ⟨fun j j1 j2 => hbj j j2 (by omega), fun j j1 j2 => ?_, by rw [hone]; simp, ?_⟩
          · by_cases q : j = i
            · subst q; rw [hbi]; omega
            · rw [hbj j j2 q, hz j j1 j2]; omega
          · rw [hone, hbi, Lib.join_one, ← hit, hl]
theorem itF_zero (b : N3) : itF 0 b = itL b 3 := by
  show it1 0 b.x ++ (it1 1 b.y ++ it1 2 b.z) = it1 0 b.x ++ it1 1 b.y ++ it1 2 b.z
  rw [List.append_assoc]
theorem txN_rdN {l : List UInt8} {b : N3} (h : rdN l = some b) : txN b = l ∧ (0 ≤ b.x ∧ b.x ≤ 9223372036854775807) ∧ (0 ≤ b.y ∧ b.y ≤ 9223372036854775807) ∧ 0 ≤ b.z ∧ b.z ≤ 9223372036854775807 := by
  unfold rdN at h
  split at h
  · next hl =>
    cases h
    rw [hl]
    exact ⟨rfl, by decide, by decide, by decide⟩
  · obtain ⟨_, h2, h3, h4⟩ := rdI_back 4 0 l nz b (fun j _ j3 => by rcases (show j = 0 ∨ j = 1 ∨ j = 2 by omega) with rfl | rfl | rfl <;> rfl) h
    rw [itF_zero] at h3 h4
    refine ⟨?_, h2 0 (by omega) (by omega), h2 1 (by omega) (by omega), h2 2 (by omega) (by omega)⟩
    unfold txN
    rw [if_neg h3, h4]
end Go.Proofs.YtmhidmocmolgfaaDoor.Ndm
