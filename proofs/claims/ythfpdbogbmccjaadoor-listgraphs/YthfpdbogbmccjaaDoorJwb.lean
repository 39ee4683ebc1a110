/- Package list: what a store leaves of the work; its method begin. -/
import Derived.Test.YthfpdbogbmccjaaDoorJwn
namespace Go.Proofs.YthfpdbogbmccjaaDoor
open Go.RowKit Gm Pm
set_option linter.unusedSectionVars false
set_option linter.unusedVariables false

theorem wMixedK : Tryd.prog.follows Departure.mixedOrders = true := by kernel_rfl
section
variable {w : World} {g0 gp gA gE gF gT B : Nat} {pd : Option Addr} {cd n m : Nat} {l : List Ed} {d : List Int} {s : Wst}
theorem Wk.drew (h : Wk w g0 gp gA gE gF gT B pd cd n m l d s) : Wk w.drew g0 gp gA gE gF gT B pd cd n m l d s := h.below (Below.refl _ _).drew
theorem Wk.put (h : Wk w g0 gp gA gE gF gT B pd cd n m l d s) {g j : Nat} {v : Value} {s' : Wst} (hg : g = gE ∨ g = gF ∨ g = gT) (hE : (w.setCell ⟨g, j, none⟩ v).ownsRow g0 2 1 (.slice (some ⟨gE, 0, none⟩) n n) n (numf s'.E n)) (hF : (w.setCell ⟨g, j, none⟩ v).ownsRow g0 2 1 (.slice (some ⟨gF, 0, none⟩) m m) m (numf s'.F m))
    (hT : ∀ i, i < n → (w.setCell ⟨g, j, none⟩ v).cell? ⟨gT, i * 2, none⟩ = some (.int .i64 (s'.A i)) ∧ (w.setCell ⟨g, j, none⟩ v).cell? ⟨gT, i * 2 + 1, none⟩ = some (.int .i64 (s'.H i))) : Wk (w.setCell ⟨g, j, none⟩ v) g0 gp gA gE gF gT B pd cd n m l d s' := by
  obtain ⟨l1, l2, l3, l4, l5⟩ := h.lt
  obtain ⟨o1, o2, o3, o4, o5, o6, o7, o8⟩ := h.lo
  obtain ⟨a1, a2, a3, a4, a5, a6, a7, a8, a9⟩ := h.ap
  have oc : ∀ {b o : Nat} {u : Value}, b ≠ g → w.cell? ⟨b, o, none⟩ = some u → (w.setCell ⟨g, j, none⟩ v).cell? ⟨b, o, none⟩ = some u := fun {b o u} hb hc => (World.cell?_setCell_other _ _ _ _ (by intro e; simp only [Addr.mk.injEq] at e; exact hb e.1.symm)).trans hc
  have hgp : gp ≠ g := by rcases hg with e | e | e <;> (rw [e]; assumption)
  have hgA : gA ≠ g := by rcases hg with e | e | e <;> (rw [e]; assumption)
  have hgB : g < B := by rcases hg with e | e | e <;> (rw [e]; assumption)
  have hg0 : g0 ≤ g := by rcases hg with e | e | e <;> (rw [e]; assumption)
  have hs : (w.setCell ⟨g, j, none⟩ v).heap.size = w.heap.size := by simp [World.setCell]
  refine ⟨oc hgp h.c0, oc hgp h.c1, oc hgp h.c2, oc hgp h.c3, oc hgp h.c4, by rw [hs]; exact h.lt, h.lo, h.ap, ⟨by rw [hs]; exact h.nx.lt, fun i hi => ?_⟩, h.dl, fun i hi => ?_, hE, hF, fun i hi => ?_⟩
  · obtain ⟨p, c, h1, h2⟩ := h.nx.c i hi
    exact ⟨p, c, oc hgA h1, owns_set_other h2 _ _ fun b hb => by have h3 := (h2.lt b hb).1; show b ≠ g; omega⟩
  · obtain ⟨b, o, e, hlt, hc⟩ := h.dn i hi
    exact ⟨b, o, e, hlt, oc (by omega) hc⟩
  · obtain ⟨t1, t2, t3, t4⟩ := h.T i hi
    exact ⟨(hT i hi).1, (hT i hi).2, by rw [World.frozen?_setCell]; exact t3, by rw [World.frozen?_setCell]; exact t4⟩
theorem Wk.tOther (h : Wk w g0 gp gA gE gF gT B pd cd n m l d s) {g j : Nat} {v : Value} (hg : gT ≠ g) : ∀ i, i < n → (w.setCell ⟨g, j, none⟩ v).cell? ⟨gT, i * 2, none⟩ = some (.int .i64 (s.A i)) ∧ (w.setCell ⟨g, j, none⟩ v).cell? ⟨gT, i * 2 + 1, none⟩ = some (.int .i64 (s.H i)) := fun i hi => by
  obtain ⟨t1, t2, _⟩ := h.T i hi
  exact ⟨(World.cell?_setCell_other _ _ _ _ (by intro e; simp only [Addr.mk.injEq] at e; exact hg e.1.symm)).trans t1, (World.cell?_setCell_other _ _ _ _ (by intro e; simp only [Addr.mk.injEq] at e; exact hg e.1.symm)).trans t2⟩
theorem own_other {w : World} {g0 g' g k : Nat} {E : Nat → Int} {v : Value} {j : Nat} (h : w.ownsRow g0 2 1 (.slice (some ⟨g', 0, none⟩) k k) k (numf E k)) (hg : g' ≠ g) : (w.setCell ⟨g, j, none⟩ v).ownsRow g0 2 1 (.slice (some ⟨g', 0, none⟩) k k) k (numf E k) :=
  owns_set_other h _ _ fun b hb => by
    have e : b = g' := by simpa [Value.ownBlock] using hb.symm
    rw [e]; exact hg
theorem Wk.setE (h : Wk w g0 gp gA gE gF gT B pd cd n m l d s) (j : Nat) (x : Int) : Wk (w.setCell ⟨gE, j, none⟩ (.int .i64 x)) g0 gp gA gE gF gT B pd cd n m l d ⟨fp s.E j x, s.F, s.A, s.H⟩ := by
  obtain ⟨a1, a2, a3, a4, a5, a6, a7, a8, a9⟩ := h.ap
  refine h.put (Or.inl rfl) ?_ (own_other h.F (Ne.symm a7)) (h.tOther (Ne.symm a8))
  have h2 := owns_store h.E (j := j) (.int .i64 x)
  rw [numf_set] at h2
  exact h2
theorem Wk.setF (h : Wk w g0 gp gA gE gF gT B pd cd n m l d s) (j : Nat) (x : Int) : Wk (w.setCell ⟨gF, j, none⟩ (.int .i64 x)) g0 gp gA gE gF gT B pd cd n m l d ⟨s.E, fp s.F j x, s.A, s.H⟩ := by
  obtain ⟨a1, a2, a3, a4, a5, a6, a7, a8, a9⟩ := h.ap
  refine h.put (Or.inr (Or.inl rfl)) (own_other h.E a7) ?_ (h.tOther (Ne.symm a9))
  have h2 := owns_store h.F (j := j) (.int .i64 x)
  rw [numf_set] at h2
  exact h2
theorem Wk.setA (h : Wk w g0 gp gA gE gF gT B pd cd n m l d s) {j : Nat} (hj : j < n) (x : Int) : Wk (w.setCell ⟨gT, j * 2, none⟩ (.int .i64 x)) g0 gp gA gE gF gT B pd cd n m l d ⟨s.E, s.F, fp s.A j x, s.H⟩ := by
  obtain ⟨a1, a2, a3, a4, a5, a6, a7, a8, a9⟩ := h.ap
  refine h.put (Or.inr (Or.inr rfl)) (own_other h.E a8) (own_other h.F a9) fun i hi => ?_
  obtain ⟨t1, t2, _⟩ := h.T i hi
  refine ⟨?_, (World.cell?_setCell_other _ _ _ _ (by intro e; simp only [Addr.mk.injEq] at e; omega)).trans t2⟩
  by_cases e : i = j
  · subst e
    show _ = some (Value.int .i64 (fp s.A i x i))
    rw [fp_same]
    exact World.cell?_setCell_same _ _ _ t1
  · show _ = some (Value.int .i64 (fp s.A j x i))
    rw [fp_ne e]
    exact (World.cell?_setCell_other _ _ _ _ (by intro e; simp only [Addr.mk.injEq] at e; omega)).trans t1
theorem Wk.setH (h : Wk w g0 gp gA gE gF gT B pd cd n m l d s) {j : Nat} (hj : j < n) (x : Int) : Wk (w.setCell ⟨gT, j * 2 + 1, none⟩ (.int .i64 x)) g0 gp gA gE gF gT B pd cd n m l d ⟨s.E, s.F, s.A, fp s.H j x⟩ := by
  obtain ⟨a1, a2, a3, a4, a5, a6, a7, a8, a9⟩ := h.ap
  refine h.put (Or.inr (Or.inr rfl)) (own_other h.E a8) (own_other h.F a9) fun i hi => ?_
  obtain ⟨t1, t2, _⟩ := h.T i hi
  refine ⟨(World.cell?_setCell_other _ _ _ _ (by intro e; simp only [Addr.mk.injEq] at e; omega)).trans t1, ?_⟩
  by_cases e : i = j
  · subst e
    show _ = some (Value.int .i64 (fp s.H i x i))
    rw [fp_same]
    exact World.cell?_setCell_same _ _ _ t2
  · show _ = some (Value.int .i64 (fp s.H j x i))
    rw [fp_ne e]
    exact (World.cell?_setCell_other _ _ _ _ (by intro e; simp only [Addr.mk.injEq] at e; omega)).trans t2
end
/-- From when on each hand is free, as a row. -/
def frl (F : Nat → Int) (m : Nat) : List Int := (List.range m).map F
theorem frl_len (F : Nat → Int) (m : Nat) : (frl F m).length = m := by simp [frl]
theorem frl_nm {F : Nat → Int} {m i : Nat} (hi : i < m) : nm (frl F m) i = F i := by
  rw [nm_get (by rw [frl_len]; exact hi)]
  simp [frl]
theorem frl_nums {w : World} {B g m : Nat} {F : Nat → Int} (h : w.ownsRow B 2 1 (.slice (some ⟨g, 0, none⟩) m m) m (numf F m)) : Nums w (some ⟨g, 0, none⟩) (frl F m) :=
  Or.inr ⟨g, 0, rfl, (h.lt g rfl).2, fun j hj => by
    rw [frl_len] at hj
    rw [frl_nm hj, Nat.zero_add, h.cellAt j (by omega), numf_get hj]⟩
/-- The least hand that is free, if there is one. -/
theorem hand_cases (F : Nat → Int) (t : Int) (m : Nat) : (fz (fun x => decide (x ≤ t)) (frl F m) = -1 ∧ ∀ h, h < m → t < F h) ∨ ∃ h, h < m ∧ fz (fun x => decide (x ≤ t)) (frl F m) = (h : Int) ∧ F h ≤ t ∧ ∀ k, k < h → t < F k := by
  by_cases hall : ∀ h, h < m → t < F h
  · refine Or.inl ⟨fz_none fun i hi => ?_, hall⟩
    rw [frl_len] at hi
    rw [frl_nm hi]
    have := hall i hi
    simp; omega
  · have hex : ∃ h, h < m ∧ F h ≤ t := by
      refine Classical.byContradiction fun hno => hall fun h hh => ?_
      by_cases e : t < F h
      · exact e
      · exact absurd ⟨h, hh, by omega⟩ hno
    obtain ⟨h, ⟨h1, h2⟩, h3⟩ : ∃ h, (h < m ∧ F h ≤ t) ∧ ∀ k, k < h → ¬ (k < m ∧ F k ≤ t) := by
      obtain ⟨h0, hh0⟩ := hex
      induction h0 using Nat.strongRecOn with
      | ind h0 ih =>
        by_cases e : ∃ k, k < h0 ∧ k < m ∧ F k ≤ t
        · obtain ⟨k, e1, e2⟩ := e
          exact ih k e1 e2
        · exact ⟨h0, hh0, fun k hk hh => e ⟨k, hk, hh⟩⟩
    have h4 : ∀ k, k < h → t < F k := fun k hk => by
      have := h3 k hk
      by_cases e : t < F k
      · exact e
      · exact absurd ⟨by omega, by omega⟩ this
    refine Or.inr ⟨h, h1, fz_at (by rw [frl_len]; exact h1) (by rw [frl_nm h1]; simpa using h2) fun i hi => ?_, h2, h4⟩
    rw [frl_nm (show i < m by omega)]
    have := h4 i hi
    simp; omega
end Go.Proofs.YthfpdbogbmccjaaDoor
