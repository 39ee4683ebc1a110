/- GraphOrder, walked. -/
import Derived.Test.YthfpdbogbmccjaaDoorGe
import Derived.Laws.OwnMore
namespace Go.Proofs.YthfpdbogbmccjaaDoor
open Go.RowKit Gm
set_option linter.unusedSectionVars false

/-- At which place of the first k of a row each thing stands, from 1 on; 0, if at none. -/
def ap (R : List Nat) : Nat → Nat → Nat
  | 0, _ => 0
  | k + 1, x => if x = bn R k then k + 1 else ap R k x
theorem ap_none {R : List Nat} : ∀ {k x : Nat}, k ≤ R.length → x ∉ R.take k → ap R k x = 0
  | 0, _, _, _ => rfl
  | k + 1, x, hk, hx => by
    have hk' : k < R.length := by omega
    rw [← List.take_append_getElem hk'] at hx
    have h1 : x ∉ R.take k := fun h => hx (List.mem_append_left _ h)
    have h2 : x ≠ bn R k := fun h => hx (List.mem_append_right _ (by rw [bn_get hk'] at h; simp [h]))
    rw [ap, if_neg h2]
    exact ap_none (by omega) h1
theorem ap_at {R : List Nat} (hn : R.Pairwise (· ≠ ·)) : ∀ {k i : Nat}, k ≤ R.length → i < k → ap R k (bn R i) = i + 1
  | k + 1, i, hk, hi => by
    by_cases e : i = k
    · subst e; simp [ap]
    · have : bn R i ≠ bn R k := by
        rw [List.pairwise_iff_getElem] at hn
        have := hn i k (by omega) (by omega) (by omega)
        rwa [bn_get (by omega), bn_get (by omega)]
      rw [ap, if_neg this]
      exact ap_at hn (by omega) (by omega)
def atL (R : List Nat) (k N : Nat) : List Value := (List.range N).map fun (x : Nat) => .int .i64 ((ap R k x : Nat) : Int)
theorem atL_get (R : List Nat) (k : Nat) {N x : Nat} (hx : x < N) : (atL R k N)[x]? = some (.int .i64 ((ap R k x : Nat) : Int)) := by simp [atL, hx]
theorem atL_set (R : List Nat) {k N : Nat} : (atL R k N).set (bn R k) (.int .i64 ((k + 1 : Nat) : Int)) = atL R (k + 1) N := by
  apply List.ext_getElem?
  intro j
  rw [List.getElem?_set]
  by_cases hj : j < N
  · rw [atL_get _ _ hj, atL_get _ _ hj]
    by_cases e : bn R k = j
    · subst e
      rw [if_pos rfl, if_pos (by simp [atL]; exact hj)]
      simp [ap]
    · rw [if_neg e]
      simp [ap, Ne.symm e]
  · have h1 : (atL R k N)[j]? = none := by simp [atL]; omega
    have h2 : (atL R (k + 1) N)[j]? = none := by simp [atL]; omega
    rw [h1, h2]
    split
    · split
      · rename_i h; simp [atL] at h; omega
      · rfl
    · rfl
theorem atL_zero (R : List Nat) (N : Nat) : List.replicate N (Value.int .i64 0) = atL R 0 N := by
  apply List.ext_getElem?
  intro j
  by_cases hj : j < N
  · rw [atL_get _ _ hj]; simp [hj, ap]
  · simp [atL, hj]
theorem owns_store {w : World} {B g n cap j : Nat} {e : TypeId} {xs : List Value} (h : w.ownsRow B e 1 (.slice (some ⟨g, 0, none⟩) n cap) n xs) (u : Value) : (w.setCell ⟨g, j, none⟩ u).ownsRow B e 1 (.slice (some ⟨g, 0, none⟩) n cap) n (xs.set j u) := by
  refine ⟨by simpa using h.1, ?_⟩
  rcases h.2 with ⟨h0, _⟩ | ⟨g', cap', cur, hv, hB, hg, h1, h2, h3, h4⟩
  · simp at h0
  · obtain ⟨rfl, rfl⟩ : g = g' ∧ cap = cap' := by simpa using hv
    refine Or.inr ⟨g, cap, _, rfl, hB, heap_setCell_same w g j _ _ _ hg, h1, h2, by simpa using h3, ?_⟩
    simp only [Array.toList_setIfInBounds]
    rw [List.take_set, h4]
theorem owns_frz {w : World} {B g n cap : Nat} {e : TypeId} {k : Nat} {xs : List Value} (h : w.ownsRow B e k (.slice (some ⟨g, 0, none⟩) n cap) n xs) (j : Nat) : w.frozen? ⟨g, j, none⟩ = false := by
  rcases h.2 with ⟨h0, _⟩ | ⟨g', cap', cur, hv, hB, hg, _⟩
  · simp at h0
  · obtain ⟨rfl, rfl⟩ : g = g' ∧ cap = cap' := by simpa using hv
    simp [World.frozen?, hg]
theorem owns_set_other {w : World} {B : Nat} {e : TypeId} {k : Nat} {v : Value} {n : Nat} {xs : List Value} (h : w.ownsRow B e k v n xs) (a : Addr) (u : Value) (hne : ∀ g, v.ownBlock = some g → g ≠ a.block) : (w.setCell a u).ownsRow B e k v n xs :=
  h.kept (w' := w.setCell a u) (row := some a.block) ⟨rfl, rfl, rfl, by simp [World.setCell], fun k _ hk => Below.heap_setCell w a u k (fun e => hk (by rw [e]))⟩ (by
    cases hv : v.ownBlock with
    | none => exact Or.inl rfl
    | some g => right; intro e; cases e; exact hne _ hv rfl)
/-- Along an edge the places rise. -/
theorem ap_edge {l : List Ed} {N : Nat} {R : List Nat} (hg : Gr N l) (h : Grd (eB l) N R) (hN : R.length = N) (hall : ∀ j, j < N → j ∈ R) {f t : Nat} (he : eB l f t = true) : ap R N f < ap R N t := by
  obtain ⟨b, hb, eb⟩ := List.getElem_of_mem (hall t (hg.lt he).2)
  have hf := h.ahead b hb f (by rw [eb]; exact he)
  obtain ⟨a, ha, ea⟩ := List.getElem_of_mem hf
  have hab : a < b := by simp at ha; omega
  have ea' : bn R a = f := by rw [bn_get (by omega), ← ea, List.getElem_take]
  have eb' : bn R b = t := by rw [bn_get hb, eb]
  rw [← ea', ← eb', ap_at h.nodup (by omega) (by omega), ap_at h.nodup (by omega) (by omega)]
  omega
theorem chk_vals (n : Int) (l : List Ed) : chk n l = 0 ∨ chk n l = 1 ∨ chk n l = 2 ∨ chk n l = 4 := by
  unfold chk
  repeat (first | omega | split)
theorem knot_cyc {n : Int} {l : List Ed} (h0 : chk n l = 0) : (∃ i, Rch (eB l) i i) ↔ 0 < (bl (fun i => wB l i i) 60).length := by
  have hg := chk_gr h0
  constructor
  · rintro ⟨i, hi⟩
    have := rch_lt hg hi
    have := hg.n60
    exact List.length_pos_of_mem (mem_bl.2 ⟨by omega, (wB_iff hg).2 hi⟩)
  · intro h
    obtain ⟨i, hi⟩ := List.exists_mem_of_length_pos h
    exact ⟨i, (wB_iff hg).1 (mem_bl.1 hi).2⟩

end Go.Proofs.YthfpdbogbmccjaaDoor
