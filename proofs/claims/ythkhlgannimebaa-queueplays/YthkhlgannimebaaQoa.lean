/- A slice of acts that is handed in, opened: its cells, and that its numbers are numbers of their kinds. -/
import Derived.Test.YthkhlgannimebaaAgg
import Derived.Test.YthkhlgannimebaaQac
import Derived.Deep.Slices
import Derived.Deep.DeepHandedRow
namespace Go.Proofs.Ythkhlgannimebaa
open Go.ChangeShapes Go.WideShapes Go.ChangeAt Go.RowKit Go.Deep Qum
set_option linter.unusedSectionVars false

theorem four_list {α : Type} {l : List α} (h : l.length = 4) : ∃ a b c d, l = [a, b, c, d] := by
  match l, h with
  | [a, b, c, d], _ => exact ⟨a, b, c, d, rfl⟩

theorem open_acts {H : Type} {enc : TypeId × Value → H} {P : Program} {W : World} {r : Reach} {b0 : Nat} {sp : Nat → Bool} {held : Bool} {t e E0 E3 : TypeId} {f0 f1 f2 f3 : Field} {v : Value} {d : DataW H} {ps : List MemPlace} (ht : P.underlying t = some (.slice e)) (hs : P.underlying e = some (.struct #[f0, f1, f2, f3])) (hone : oneCellFields P #[f0, f1, f2, f3] = true) (hC : P.cellsOf e = 4)
    (hE0 : P.underlying E0 = some (.int .i64)) (hE3 : P.underlying E3 = some (.int .i64)) (htt : f0.type = E0 ∧ f1.type = E0 ∧ f2.type = E0 ∧ f3.type = E3)
    (hval : Value.okWide P W r b0 t v) (h : DataW.Trod enc P W 0 sp held t v d ps) : ∃ (q : Option Addr) (l : List Ac) (cap : Nat), v = .slice q l.length cap ∧ Acts W q l := by
  obtain ⟨a0, len0, cap0, rfl⟩ := okWide_slice ht hval
  obtain ⟨fuel, hf⟩ := h
  rcases open_slice ht hf with ⟨hcs, _⟩ | ⟨a, len, cap, m, n, D, Pl, hcs, _, hl, hm, hmm, _, hx⟩
  · have e0 : Value.slice a0 len0 cap0 = .slice none 0 0 := by simpa [Value.cells] using hcs
    exact ⟨none, [], 0, e0, Or.inl rfl⟩
  · have e0 : Value.slice a0 len0 cap0 = .slice (some a) len cap := by simpa [Value.cells] using hcs
    have hlm : len ≤ m := by rw [hmm]; split <;> omega
    obtain ⟨t0, t1, t2, t3⟩ := htt
    have each : ∀ i, i < len → ∃ x : Ac, W.cell? (a.add (i * 4)) = some (.int .i64 x.k) ∧ W.cell? (a.add (i * 4 + 1)) = some (.int .i64 x.i) ∧ W.cell? (a.add (i * 4 + 2)) = some (.int .i64 x.p) ∧ W.cell? (a.add (i * 4 + 3)) = some (.int .i64 x.a) ∧
        (Lit.int .i64 x.i).wf = true ∧ (Lit.int .i64 x.a).wf = true := by
      intro i hi
      obtain ⟨cs', h1, h2⟩ := hx i (by omega)
      rw [hC] at h1
      obtain ⟨_, hlen, hcell⟩ := World.cells?_some h1
      obtain ⟨xs, k, hk, hxy, _, hxl, hff⟩ := DataW.trod_struct hs h2
      obtain ⟨v0, v1, v2, v3, rfl⟩ := four_list hlen
      obtain ⟨y0, y1, y2, y3, rfl⟩ := four_list (hxl.trans rfl)
      obtain ⟨x0, rfl, rfl, w0⟩ := field_int (i := 0) (f := f0) (v := v0) hone rfl (by rw [t0]; exact hE0) rfl (hff 0 f0 rfl)
      obtain ⟨x1, rfl, rfl, w1⟩ := field_int (i := 1) (f := f1) (v := v1) hone rfl (by rw [t1]; exact hE0) rfl (hff 1 f1 rfl)
      obtain ⟨x2, rfl, rfl, w2⟩ := field_int (i := 2) (f := f2) (v := v2) hone rfl (by rw [t2]; exact hE0) rfl (hff 2 f2 rfl)
      obtain ⟨x3, rfl, rfl, w3⟩ := field_int (i := 3) (f := f3) (v := v3) hone rfl (by rw [t3]; exact hE3) rfl (hff 3 f3 rfl)
      have c0 := hcell 0 (by omega)
      have c1 := hcell 1 (by omega)
      have c2 := hcell 2 (by omega)
      have c3 := hcell 3 (by omega)
      rw [add_add] at c0 c1 c2 c3
      exact ⟨⟨x0, x1, x2, x3⟩, by simpa using c0, by simpa using c1, by simpa using c2, by simpa using c3, w1, w3⟩
    haveI : Inhabited Ac := ⟨⟨0, 0, 0, 0⟩⟩
    obtain ⟨f, hfx⟩ := choose_lt each
    refine ⟨some a, (List.range len).map f, cap, by rw [e0]; simp, ?_⟩
    by_cases h0 : len = 0
    · exact Or.inl (by simp [h0])
    · obtain ⟨b, o, s⟩ := a
      obtain rfl : s = none := by
        have := (hfx 0 (by omega)).1
        cases s with
        | none => rfl
        | some z =>
          exfalso
          simp only [World.cell?, Addr.add] at this
          split at this <;> simp_all
      have get : ∀ j, j < ((List.range len).map f).length → ac ((List.range len).map f) j = f j ∧ j < len := fun j hj => by
        have hj' : j < len := by simpa using hj
        refine ⟨?_, hj'⟩
        rw [ac_get hj]
        simp
      refine Or.inr ⟨b, o, rfl, ⟨?_, ?_, ?_, ?_, ?_, ?_⟩⟩
      · have := (hfx 0 (by omega)).1
        rw [Addr.add_lit] at this
        exact World.block_lt_of_cell? W _ this
      · intro j hj
        obtain ⟨g1, g2⟩ := get j hj
        have := (hfx j g2).1
        rw [Addr.add_lit] at this
        rw [g1]; exact this
      · intro j hj
        obtain ⟨g1, g2⟩ := get j hj
        have := (hfx j g2).2.1
        rw [Addr.add_lit, ← Nat.add_assoc] at this
        rw [g1]; exact this
      · intro j hj
        obtain ⟨g1, g2⟩ := get j hj
        have := (hfx j g2).2.2.1
        rw [Addr.add_lit, ← Nat.add_assoc] at this
        rw [g1]; exact this
      · intro j hj
        obtain ⟨g1, g2⟩ := get j hj
        have := (hfx j g2).2.2.2.1
        rw [Addr.add_lit, ← Nat.add_assoc] at this
        rw [g1]; exact this
      · intro j hj
        obtain ⟨g1, g2⟩ := get j hj
        rw [g1]; exact (hfx j g2).2.2.2.2.1
end Go.Proofs.Ythkhlgannimebaa
