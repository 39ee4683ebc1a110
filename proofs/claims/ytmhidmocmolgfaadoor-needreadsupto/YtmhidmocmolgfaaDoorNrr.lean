/- The plain mathematics of the reference's reading of needs: pieces, and that both ways come to one. -/
import Derived.Test.YtmhidmocmolgfaaDoorNrm
import Derived.Test.YtmhidmocmolgfaaDoorSpl
namespace Go.Proofs.YtmhidmocmolgfaaDoor.Ndm
open Go Txt Spl

/-- A number above 0, told in the one way. -/
def psN (l : List UInt8) : Option Int := match pl64 l with
  | none => none
  | some n => if n = 0 then none else some n
/-- The kind whose name, and a '=', a piece begins with; else 3. -/
def knd (x : List UInt8) : Nat := if x.take 4 = [99, 112, 117, 61] then 0 else if x.take 4 = [109, 101, 109, 61] then 1 else if x.take 4 = [103, 112, 117, 61] then 2 else 3
/-- One piece. -/
def pcS (x : List UInt8) (a : N3) : Option N3 := if knd x = 3 then none else match psN (x.drop 4) with
  | none => none
  | some n => some (setN a (knd x) n)
def pcF : List (List UInt8) → N3 → Option N3
  | [], a => some a
  | x :: r, a => match pcS x a with
    | none => none
    | some b => pcF r b
theorem pcF_snoc : ∀ (l : List (List UInt8)) (x : List UInt8) (a : N3), pcF (l ++ [x]) a = (pcF l a).bind (pcS x)
  | [], x, a => by
    show (match pcS x a with | none => none | some b => pcF [] b) = pcS x a
    cases pcS x a <;> rfl
  | y :: r, x, a => by
    show (match pcS y a with | none => none | some b => pcF (r ++ [x]) b) = (match pcS y a with | none => none | some b => pcF r b).bind (pcS x)
    cases pcS y a with
    | none => rfl
    | some b => exact pcF_snoc r x b
theorem pcF_none : ∀ (l r : List (List UInt8)) (a : N3), pcF l a = none → pcF (l ++ r) a = none
  | [], _, _, h => by cases h
  | y :: l, r, a, h => by
    show (match pcS y a with | none => none | some b => pcF (l ++ r) b) = none
    replace h : (match pcS y a with | none => none | some b => pcF l b) = none := h
    cases hy : pcS y a with
    | none => rfl
    | some b => rw [hy] at h; exact pcF_none l r b h
/-- All are numbers that can be told. -/
def nnN (a : N3) : Prop := (0 ≤ a.x ∧ a.x ≤ 9223372036854775807) ∧ (0 ≤ a.y ∧ a.y ≤ 9223372036854775807) ∧ 0 ≤ a.z ∧ a.z ≤ 9223372036854775807
theorem nnN_nz : nnN nz := by unfold nnN; decide
theorem psN_some {l : List UInt8} {n : Int} (h : psN l = some n) : 0 < n ∧ n ≤ 9223372036854775807 ∧ l = Lib.itoa n := by
  unfold psN at h
  cases hp : pl64 l with
  | none => rw [hp] at h; cases h
  | some m =>
    rw [hp] at h
    replace h : (if m = 0 then none else some m) = some n := h
    split at h
    · cases h
    · cases h
      obtain ⟨h1, h2, h3⟩ := itoa_pl64 hp
      exact ⟨by omega, h3, h1⟩
theorem psN_itoa {n : Int} (h0 : 0 < n) (h1 : n ≤ 9223372036854775807) : psN (Lib.itoa n) = some n := by
  unfold psN
  rw [pl64_itoa (by omega) h1]
  exact if_neg (by omega)
theorem knd_le (x : List UInt8) : knd x ≤ 3 := by
  unfold knd
  split
  · omega
  · split
    · omega
    · split <;> omega
theorem nnN_set {a : N3} (h : nnN a) {n : Int} (h0 : 0 < n) (h1 : n ≤ 9223372036854775807) (i : Nat) : nnN (setN a i n) := by
  unfold nnN at *
  unfold setN
  split <;> (simp; omega)
theorem pcS_nn {x : List UInt8} {a b : N3} (h : nnN a) (hs : pcS x a = some b) : nnN b := by
  unfold pcS at hs
  split at hs
  · cases hs
  · cases hp : psN (x.drop 4) with
    | none => rw [hp] at hs; cases hs
    | some n =>
      rw [hp] at hs
      cases hs
      obtain ⟨p0, p1, _⟩ := psN_some hp
      exact nnN_set h p0 p1 _
theorem pcF_nn : ∀ (l : List (List UInt8)) (a b : N3), nnN a → pcF l a = some b → nnN b
  | [], a, b, h, e => by cases e; exact h
  | x :: l, a, b, h, e => by
    replace e : (match pcS x a with | none => none | some c => pcF l c) = some b := e
    cases hx : pcS x a with
    | none => rw [hx] at e; cases e
    | some c => rw [hx] at e; exact pcF_nn l c b (pcS_nn h hx) e
theorem pcS_itN (i : Nat) (h3 : i < 3) {n : Int} (h0 : 0 < n) (h1 : n ≤ 9223372036854775807) (a : N3) : pcS (itN i n) a = some (setN a i n) := by
  have e1 : knd (itN i n) = i := by rcases (show i = 0 ∨ i = 1 ∨ i = 2 by omega) with rfl | rfl | rfl <;> rfl
  have e2 : (itN i n).drop 4 = Lib.itoa n := by rcases (show i = 0 ∨ i = 1 ∨ i = 2 by omega) with rfl | rfl | rfl <;> rfl
  unfold pcS
  rw [e1, e2, if_neg (by omega), psN_itoa h0 h1]
/-- What the reference reads. -/
def rrN (l : List UInt8) : Option N3 := if l = [45] then some nz else match pcF (sp 44 l) nz with
  | none => none
  | some a => if txN a = l then some a else none
theorem itN_len4 (i : Nat) (n : Int) : 4 ≤ (itN i n).length := by
  have : (nmB i).length = 3 := by unfold nmB; split <;> rfl
  simp [itN, this]
  omega
theorem it1_pos {i : Nat} {n : Int} : it1 i n = [] ↔ n = 0 := by
  constructor
  · intro h
    by_cases hn : n = 0
    · exact hn
    · rw [it1_some hn] at h; cases h
  · exact it1_zero
theorem txN_dash {a : N3} (h : itL a 3 ≠ []) : Lib.join (itL a 3) [44] ≠ [45] := by
  intro e
  have hl := congrArg List.length e
  cases hL : itL a 3 with
  | nil => exact h hL
  | cons b L =>
    have hb : b ∈ itL a 3 := by rw [hL]; simp
    have : ∃ i n, b = itN i n := by
      replace hb : b ∈ it1 0 a.x ++ it1 1 a.y ++ it1 2 a.z := hb
      unfold it1 at hb
      simp only [List.mem_append] at hb
      rcases hb with (hb | hb) | hb <;> (split at hb <;> simp at hb <;> exact ⟨_, _, hb⟩)
    obtain ⟨i, n, rfl⟩ := this
    have := itN_len4 i n
    rw [hL] at hl
    cases L with
    | nil => rw [Lib.join_one] at hl; simp at hl; omega
    | cons c L => rw [join_two] at hl; simp at hl; omega
/-- Pieces of a need's text come to that need; and so does the other way of reading. -/
theorem both_txN {a : N3} (h : nnN a) (he : itL a 3 ≠ []) : pcF (itL a 3) nz = some a ∧ rdI 4 0 (Lib.join (itL a 3) [44]) nz = some a := by
  obtain ⟨x, y, z⟩ := a
  obtain ⟨⟨x1, x2⟩, ⟨y1, y2⟩, z1, z2⟩ := h
  replace he : it1 0 x ++ it1 1 y ++ it1 2 z ≠ [] := he
  show pcF (it1 0 x ++ it1 1 y ++ it1 2 z) nz = some ⟨x, y, z⟩ ∧ rdI 4 0 (Lib.join (it1 0 x ++ it1 1 y ++ it1 2 z) [44]) nz = some ⟨x, y, z⟩
  have x3 : x ≤ 9223372036854775807 := x2
  have y3 : y ≤ 9223372036854775807 := y2
  have z3 : z ≤ 9223372036854775807 := z2
  have x4 : 0 ≤ x := x1
  have y4 : 0 ≤ y := y1
  have z4 : 0 ≤ z := z1
  have p1 : ∀ i n a, i < 3 → 0 < n → n ≤ 9223372036854775807 → pcF [itN i n] a = some (setN a i n) := fun i n a h3 h0 h1 => by
    show (match pcS (itN i n) a with | none => none | some b => pcF [] b) = _
    rw [pcS_itN i h3 h0 h1]
    rfl
  have p2 : ∀ i n a r, i < 3 → 0 < n → n ≤ 9223372036854775807 → pcF (itN i n :: r) a = pcF r (setN a i n) := fun i n a r h3 h0 h1 => by
    show (match pcS (itN i n) a with | none => none | some b => pcF r b) = _
    rw [pcS_itN i h3 h0 h1]
  by_cases hx : x = 0 <;> by_cases hy : y = 0 <;> by_cases hz : z = 0
  · subst hx; subst hy; subst hz; exact absurd rfl he
  · rw [it1_zero hx, it1_zero hy, it1_some hz, hx, hy]
    show pcF [itN 2 z] nz = _ ∧ rdI 4 0 (Lib.join [itN 2 z] [44]) nz = _
    rw [Lib.join_one, p1 _ _ _ (by omega) (by omega) z3, rdI_last (by omega) (by omega) (by omega) (by omega)]; exact ⟨rfl, rfl⟩
  · rw [it1_zero hx, it1_some hy, it1_zero hz, hx, hz]
    show pcF [itN 1 y] nz = _ ∧ rdI 4 0 (Lib.join [itN 1 y] [44]) nz = _
    rw [Lib.join_one, p1 _ _ _ (by omega) (by omega) y3, rdI_last (by omega) (by omega) (by omega) (by omega)]; exact ⟨rfl, rfl⟩
  · rw [it1_zero hx, it1_some hy, it1_some hz, hx]
    show pcF [itN 1 y, itN 2 z] nz = _ ∧ rdI 4 0 (Lib.join [itN 1 y, itN 2 z] [44]) nz = _
    rw [join_two, Lib.join_one, p2 _ _ _ _ (by omega) (by omega) y3, p1 _ _ _ (by omega) (by omega) z3, rdI_more (by omega) (by omega) (by omega) (by omega), rdI_last (by omega) (by omega) (by omega) (by omega)]; exact ⟨rfl, rfl⟩
  · rw [it1_some hx, it1_zero hy, it1_zero hz, hy, hz]
    show pcF [itN 0 x] nz = _ ∧ rdI 4 0 (Lib.join [itN 0 x] [44]) nz = _
    rw [Lib.join_one, p1 _ _ _ (by omega) (by omega) x3, rdI_last (by omega) (by omega) (by omega) (by omega)]; exact ⟨rfl, rfl⟩
  · rw [it1_some hx, it1_zero hy, it1_some hz, hy]
    show pcF [itN 0 x, itN 2 z] nz = _ ∧ rdI 4 0 (Lib.join [itN 0 x, itN 2 z] [44]) nz = _
    rw [join_two, Lib.join_one, p2 _ _ _ _ (by omega) (by omega) x3, p1 _ _ _ (by omega) (by omega) z3, rdI_more (by omega) (by omega) (by omega) (by omega), rdI_last (by omega) (by omega) (by omega) (by omega)]; exact ⟨rfl, rfl⟩
  · rw [it1_some hx, it1_some hy, it1_zero hz, hz]
    show pcF [itN 0 x, itN 1 y] nz = _ ∧ rdI 4 0 (Lib.join [itN 0 x, itN 1 y] [44]) nz = _
    rw [join_two, Lib.join_one, p2 _ _ _ _ (by omega) (by omega) x3, p1 _ _ _ (by omega) (by omega) y3, rdI_more (by omega) (by omega) (by omega) (by omega), rdI_last (by omega) (by omega) (by omega) (by omega)]; exact ⟨rfl, rfl⟩
  · rw [it1_some hx, it1_some hy, it1_some hz]
    show pcF [itN 0 x, itN 1 y, itN 2 z] nz = _ ∧ rdI 4 0 (Lib.join [itN 0 x, itN 1 y, itN 2 z] [44]) nz = _
    rw [join_two, join_two, Lib.join_one, p2 _ _ _ _ (by omega) (by omega) x3, p2 _ _ _ _ (by omega) (by omega) y3, p1 _ _ _ (by omega) (by omega) z3, rdI_more (by omega) (by omega) (by omega) (by omega), rdI_more (by omega) (by omega) (by omega) (by omega), rdI_last (by omega) (by omega) (by omega) (by omega)]; exact ⟨rfl, rfl⟩
theorem itL_free {a : N3} (h : nnN a) : ∀ x ∈ itL a 3, (44 : UInt8) ∉ x := by
  obtain ⟨⟨x1, _⟩, ⟨y1, _⟩, z1, _⟩ := h
  intro x hx
  replace hx : x ∈ it1 0 a.x ++ it1 1 a.y ++ it1 2 a.z := hx
  unfold it1 at hx
  simp only [List.mem_append] at hx
  rcases hx with (hx | hx) | hx
  · split at hx
    · simp at hx
    · simp at hx; subst hx; exact itN_not 0 x1
  · split at hx
    · simp at hx
    · simp at hx; subst hx; exact itN_not 1 y1
  · split at hx
    · simp at hx
    · simp at hx; subst hx; exact itN_not 2 z1
theorem itL_nil {a : N3} (h : itL a 3 = []) : a = nz := by
  obtain ⟨x, y, z⟩ := a
  replace h : it1 0 x ++ it1 1 y ++ it1 2 z = [] := h
  simp only [List.append_eq_nil_iff] at h
  obtain ⟨⟨h0, h1⟩, h2⟩ := h
  rw [it1_pos.1 h0, it1_pos.1 h1, it1_pos.1 h2]
  rfl
/-- Both ways of reading come to one. -/
theorem rrN_rdN (l : List UInt8) : rrN l = rdN l := by
  unfold rrN
  by_cases hd : l = [45]
  · rw [if_pos hd]
    unfold rdN
    rw [if_pos hd]
  · rw [if_neg hd]
    have key : ∀ a, nnN a → txN a = l → pcF (sp 44 l) nz = some a ∧ rdN l = some a := by
      intro a h ht
      unfold txN at ht
      by_cases he : itL a 3 = []
      · rw [if_pos he] at ht
        exact absurd ht.symm hd
      · rw [if_neg he] at ht
        obtain ⟨b1, b2⟩ := both_txN h he
        refine ⟨?_, ?_⟩
        · rw [← ht, sp_join he (itL_free h)]
          exact b1
        · unfold rdN
          rw [if_neg hd, ← ht]
          exact b2
    cases hr : rdN l with
    | some a =>
      obtain ⟨ht, h1, h2, h3⟩ := txN_rdN hr
      rw [(key a ⟨h1, h2, h3⟩ ht).1]
      exact if_pos ht
    | none =>
      cases hp : pcF (sp 44 l) nz with
      | none => rfl
      | some a =>
        show (if txN a = l then some a else none) = none
        by_cases ht : txN a = l
        · have := (key a (pcF_nn _ _ _ nnN_nz hp) ht).2
          rw [hr] at this
          cases this
        · exact if_neg ht
end Go.Proofs.YtmhidmocmolgfaaDoor.Ndm
