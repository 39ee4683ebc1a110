/- A slice of edges that is handed in, opened: its cells. -/
import Derived.Test.YthfpdbogbmccjaaDoorAgg
import Derived.Test.YthfpdbogbmccjaaDoorGl
import Derived.Deep.Slices
import Derived.Deep.DeepHandedRow
namespace Go.Proofs.YthfpdbogbmccjaaDoor
open Go.ChangeShapes Go.WideShapes Go.ChangeAt Go.RowKit Go.Deep Gm
set_option linter.unusedSectionVars false

theorem two_list {α : Type} {l : List α} (h : l.length = 2) : ∃ a b, l = [a, b] := by
  match l, h with
  | [a, b], _ => exact ⟨a, b, rfl⟩

theorem open_edges {H : Type} {enc : TypeId × Value → H} {P : Program} {W : World} {r : Reach} {b0 : Nat} {sp : Nat → Bool} {held : Bool} {t e E0 : TypeId} {f0 f1 : Field} {v : Value} {d : DataW H} {ps : List MemPlace} (ht : P.underlying t = some (.slice e)) (hs : P.underlying e = some (.struct #[f0, f1])) (hone : oneCellFields P #[f0, f1] = true) (hC : P.cellsOf e = 2)
    (hE0 : P.underlying E0 = some (.int .i64)) (htt : f0.type = E0 ∧ f1.type = E0)
    (hval : Value.okWide P W r b0 t v) (h : DataW.Trod enc P W 0 sp held t v d ps) : ∃ (q : Option Addr) (l : List Ed) (cap : Nat), v = .slice q l.length cap ∧ Eds W q l ∧ l.length ≤ cap := by
  obtain ⟨a0, len0, cap0, rfl⟩ := okWide_slice ht hval
  obtain ⟨fuel, hf⟩ := h
  rcases open_slice ht hf with ⟨hcs, _⟩ | ⟨a, len, cap, m, n, D, Pl, hcs, _, hl, hm, hmm, _, hx⟩
  · have e0 : Value.slice a0 len0 cap0 = .slice none 0 0 := by simpa [Value.cells] using hcs
    exact ⟨none, [], 0, e0, Or.inl rfl, Nat.le_refl _⟩
  · have e0 : Value.slice a0 len0 cap0 = .slice (some a) len cap := by simpa [Value.cells] using hcs
    have hlm : len ≤ m := by rw [hmm]; split <;> omega
    obtain ⟨t0, t1⟩ := htt
    have each : ∀ i, i < len → ∃ x : Ed, W.cell? (a.add (i * 2)) = some (.int .i64 x.f) ∧ W.cell? (a.add (i * 2 + 1)) = some (.int .i64 x.t) := by
      intro i hi
      obtain ⟨cs', h1, h2⟩ := hx i (by omega)
      rw [hC] at h1
      obtain ⟨_, hlen, hcell⟩ := World.cells?_some h1
      obtain ⟨xs, k, hk, hxy, _, hxl, hff⟩ := DataW.trod_struct hs h2
      obtain ⟨v0, v1, rfl⟩ := two_list hlen
      obtain ⟨y0, y1, rfl⟩ := two_list (hxl.trans rfl)
      obtain ⟨x0, rfl, rfl, w0⟩ := field_int (i := 0) (f := f0) (v := v0) hone rfl (by rw [t0]; exact hE0) rfl (hff 0 f0 rfl)
      obtain ⟨x1, rfl, rfl, w1⟩ := field_int (i := 1) (f := f1) (v := v1) hone rfl (by rw [t1]; exact hE0) rfl (hff 1 f1 rfl)
      have c0 := hcell 0 (by omega)
      have c1 := hcell 1 (by omega)
      rw [add_add] at c0 c1
      exact ⟨⟨x0, x1⟩, by simpa using c0, by simpa using c1⟩
    haveI : Inhabited Ed := ⟨⟨0, 0⟩⟩
    obtain ⟨f, hfx⟩ := choose_lt each
    have get : ∀ j, j < ((List.range len).map f).length → ed ((List.range len).map f) j = f j ∧ j < len := fun j hj => by
      have hj' : j < len := by simpa using hj
      refine ⟨?_, hj'⟩
      rw [ed_get hj]
      simp
    refine ⟨some a, (List.range len).map f, cap, by rw [e0]; simp, ?_, by simpa using hl⟩
    by_cases h0 : len = 0
    · exact Or.inl (by simp [h0])
    · obtain ⟨b, o, s⟩ := a
      obtain rfl : s = none := by
        have := (hfx 0 (by omega)).1
        cases s with
        | none => rfl
        | some z =>
          exfalso
          simp only [World.cell?, Addr.add] at this
          split at this <;> simp_all
      refine Or.inr ⟨b, o, rfl, ⟨?_, ?_, ?_⟩⟩
      · have := (hfx 0 (by omega)).1
        rw [Addr.add_lit] at this
        exact World.block_lt_of_cell? W _ this
      · intro j hj
        obtain ⟨g1, g2⟩ := get j hj
        have := (hfx j g2).1
        rw [Addr.add_lit] at this
        rw [g1]; exact this
      · intro j hj
        obtain ⟨g1, g2⟩ := get j hj
        have := (hfx j g2).2
        rw [Addr.add_lit, ← Nat.add_assoc] at this
        rw [g1]; exact this
end Go.Proofs.YthfpdbogbmccjaaDoor
