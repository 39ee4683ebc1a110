/- Order and Reach, each by one contract; rows of edges; slices.Contains at ints; what the laws ask of two errors' numbers. -/
import Derived.Test.YthfpdbogbmccjaaDoorGor
namespace Go.Proofs.YthfpdbogbmccjaaDoor
open Go.RowKit Gm
set_option linter.unusedSectionVars false

theorem trn_len (l : List Ed) : (trn l).length = l.length := by simp [trn]
theorem trn_get {l : List Ed} {j : Nat} (hj : j < l.length) : ed (trn l) j = ⟨(ed l j).t, (ed l j).f⟩ := by
  rw [ed_get (by rw [trn_len]; exact hj), ed_get hj]
  simp [trn]
theorem chk_trn (n : Int) (l : List Ed) : chk n (trn l) = chk n l := by
  have e : okE n (trn l) = okE n l := by
    unfold okE trn
    rw [List.all_map]
    congr 1
    funext e
    simp only [okI, Function.comp, decide_eq_decide]
    constructor <;> (rintro ⟨a, b, c, d⟩; exact ⟨c, d, a, b⟩)
  unfold chk
  rw [e, trn_len]
/-- The error's number that Order tells. -/
def oe (n : Int) (l : List Ed) : Int := if chk n l = 0 then (if 0 < (bl (fun i => wB l i i) 60).length then 8 else 0) else chk n l
/-- The error's number that Reach tells, and the row. -/
def re (n : Int) (l : List Ed) (i : Int) : Int := if chk n l = 0 then (if 0 ≤ i ∧ i < n then 0 else 4) else chk n l
def rl (n : Int) (l : List Ed) (i : Int) : List Nat := if chk n l = 0 ∧ 0 ≤ i ∧ i < n then bl (wB l i.toNat) 60 else []
theorem oe_trn (n : Int) (l : List Ed) : oe n (trn l) = oe n l := by
  unfold oe
  rw [chk_trn]
  by_cases h : chk n l = 0
  · have h' : chk n (trn l) = 0 := by rw [chk_trn]; exact h
    rw [if_pos h, if_pos h]
    have e : 0 < (bl (fun i => wB (trn l) i i) 60).length ↔ 0 < (bl (fun i => wB l i i) 60).length := by
      rw [← knot_cyc h', ← knot_cyc h]
      constructor
      · rintro ⟨i, hi⟩; exact ⟨i, rch_trn_iff.1 hi⟩
      · rintro ⟨i, hi⟩; exact ⟨i, rch_trn_iff.2 hi⟩
    by_cases g : 0 < (bl (fun i => wB l i i) 60).length
    · rw [if_pos g, if_pos (e.2 g)]
    · rw [if_neg g, if_neg (fun x => g (e.1 x))]
  · rw [if_neg h, if_neg h]
theorem rl_len (n : Int) (l : List Ed) (i : Int) : (rl n l i).length ≤ 60 := by
  unfold rl
  split
  · exact bl_len _ _
  · simp
/-- Who comes behind, with the edges turned round. -/
theorem rl_trn {n : Int} {l : List Ed} {i k : Int} (h1 : re n l i = 0) (h2 : re n (trn l) k = 0) : (∃ j ∈ rl n l i, (j : Int) = k) ↔ ∃ j ∈ rl n (trn l) k, (j : Int) = i := by
  have h0 : chk n l = 0 := by
    unfold re at h1
    split at h1
    · assumption
    · exact absurd h1 (by assumption)
  have h0' : chk n (trn l) = 0 := by rw [chk_trn]; exact h0
  have hi : 0 ≤ i ∧ i < n := by
    unfold re at h1
    rw [if_pos h0] at h1
    split at h1
    · assumption
    · cases h1
  have hk : 0 ≤ k ∧ k < n := by
    unfold re at h2
    rw [if_pos h0'] at h2
    split at h2
    · assumption
    · cases h2
  obtain ⟨I, rfl⟩ : ∃ I : Nat, i = I := ⟨i.toNat, by omega⟩
  obtain ⟨K, rfl⟩ : ∃ K : Nat, k = K := ⟨k.toNat, by omega⟩
  have hn := (chk_ok h0).2.1
  have hg := chk_gr h0
  have hg' := chk_gr h0'
  unfold rl
  rw [if_pos ⟨h0, hi⟩, if_pos ⟨h0', hk⟩, Int.toNat_natCast, Int.toNat_natCast]
  constructor
  · rintro ⟨j, hj, e⟩
    obtain rfl : j = K := by omega
    refine ⟨I, mem_bl.2 ⟨by omega, (wB_iff hg').2 (rch_trn_iff.2 ((wB_iff hg).1 (mem_bl.1 hj).2))⟩, rfl⟩
  · rintro ⟨j, hj, e⟩
    obtain rfl : j = I := by omega
    refine ⟨K, mem_bl.2 ⟨by omega, (wB_iff hg).2 (rch_trn_iff.1 ((wB_iff hg').1 (mem_bl.1 hj).2))⟩, rfl⟩

def flatE (l : List Ed) : List Value := l.flatMap fun x => [.int .i64 x.f, .int .i64 x.t]
theorem flatE_len (l : List Ed) : (flatE l).length = l.length * 2 := by
  induction l with
  | nil => rfl
  | cons x r ih => simp [flatE] at ih ⊢; omega
theorem flatE_snoc (l : List Ed) (x : Ed) : flatE (l ++ [x]) = flatE l ++ [.int .i64 x.f, .int .i64 x.t] := by simp [flatE]
theorem flatE_get {l : List Ed} {j : Nat} (hj : j < l.length) : (flatE l)[j * 2]? = some (.int .i64 (ed l j).f) ∧ (flatE l)[j * 2 + 1]? = some (.int .i64 (ed l j).t) := by
  induction l generalizing j with
  | nil => cases hj
  | cons x r ih =>
    cases j with
    | zero => exact ⟨rfl, rfl⟩
    | succ j =>
      have := ih (j := j) (by simpa using hj)
      have e : flatE (x :: r) = .int .i64 x.f :: .int .i64 x.t :: flatE r := rfl
      rw [e, show (j + 1) * 2 = j * 2 + 1 + 1 by omega]
      simpa [ed] using this
/-- A row of edges of one's own is a slice of edges. -/
theorem eds_row {w : World} {B : Nat} {p : Option Addr} {n c : Nat} {m : List Ed} (h : w.ownsRow B 52 2 (.slice p n c) n (flatE m)) (hn : m.length = n) : Eds w p m := by
  rcases h.2 with ⟨_, h0⟩ | ⟨g, cap, cur, hv, hB, hg, _⟩
  · exact Or.inl (by omega)
  · obtain ⟨rfl, rfl⟩ : p = some ⟨g, 0, none⟩ ∧ c = cap := by simpa using hv
    refine Or.inr ⟨g, 0, rfl, (Array.getElem?_eq_some_iff.1 hg).1, fun j hj => ?_, fun j hj => ?_⟩
    · rw [Nat.zero_add, h.cellAt (j * 2) (by omega), (flatE_get hj).1]
    · rw [Nat.zero_add, h.cellAt (j * 2 + 1) (by omega), (flatE_get hj).2]
theorem info_edge : (Tryd.prog.info? 52).map (fun i => (i.zero, i.size, i.bytes)) = some (some (.agg #[.int .i64 0, .int .i64 0]), 2, 16) := by kernel_rfl

end Go.Proofs.YthfpdbogbmccjaaDoor
