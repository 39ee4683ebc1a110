/- A slice of hosts that is handed in: opened. -/
import Derived.Test.YtelepamnlpebgabDoorAhp
import Derived.Test.YtelepamnlpebgabDoorHom
namespace Go.Proofs.YtelepamnlpebgabDoor
open Go.ChangeShapes Go.WideShapes Go.ChangeAt Go.RowKit Go.Deep Akm Ndm
set_option linter.unusedSectionVars false
set_option linter.unusedVariables false

section
variable {H : Type} {enc : TypeId × Value → H} {P : Program} {w : World} {sp : Nat → Bool} {held : Bool}

theorem open_hosts {r : Reach} {b0 : Nat} {v : Value} {d : DataW H} {ps : List MemPlace} {tT tH tS tL tN : TypeId} {f0 f1 f2 f3 g0 g1 n0 n1 n2 : Field} (htT : P.underlying tT = some (.slice tH)) (hs : P.underlying tH = some (.struct #[f0, f1, f2, f3])) (hC : P.cellsOf tH = 8)
    (ho : f0.offset = 0 ∧ f1.offset = 1 ∧ f2.offset = 2 ∧ f3.offset = 5) (ht : P.underlying f0.type = some .string ∧ f1.type = tS ∧ f2.type = tN ∧ f3.type = tN) (hc : P.cellsOf f0.type = 1 ∧ P.cellsOf tS = 1)
    (htS : P.underlying tS = some (.slice tL)) (hsL : P.underlying tL = some (.struct #[g0, g1])) (honeL : oneCellFields P #[g0, g1] = true) (h0L : P.underlying g0.type = some .string) (h1L : P.underlying g1.type = some .string) (hCL : P.cellsOf tL = 2)
    (hsN : P.underlying tN = some (.struct #[n0, n1, n2])) (honeN : oneCellFields P #[n0, n1, n2] = true) (hN : P.underlying n0.type = some (.int .i64) ∧ P.underlying n1.type = some (.int .i64) ∧ P.underlying n2.type = some (.int .i64)) (hCN : P.cellsOf tN = 3)
    (hv : Value.okWide P w r b0 tT v) (h : DataW.Trod enc P w 0 sp held tT v d ps) : ∃ (q : Option Addr) (l : List Ht) (c : Nat), v = .slice q l.length c ∧ l.length ≤ c ∧ Hsts w q l := by
  obtain ⟨a0, len0, cap0, rfl⟩ := okWide_slice htT hv
  obtain ⟨fuel, hf⟩ := h
  rcases open_slice htT hf with ⟨hcs, _⟩ | ⟨a, len, cap, m, n, D, Pl, hcs, _, hl, hm, hmm, _, hx⟩
  · have e0 : Value.slice a0 len0 cap0 = .slice none 0 0 := by simpa [Value.cells] using hcs
    exact ⟨none, [], 0, e0, by simp, Or.inl rfl⟩
  · have e0 : Value.slice a0 len0 cap0 = .slice (some a) len cap := by simpa [Value.cells] using hcs
    have hlm : len ≤ m := by rw [hmm]; split <;> omega
    by_cases hl0 : len = 0
    · subst hl0
      exact ⟨some a, [], cap, e0, by simp, Or.inl rfl⟩
    · obtain ⟨b, o, s⟩ := a
      obtain rfl : s = none := by
        obtain ⟨cs', q1, _⟩ := hx 0 (by omega)
        rw [hC] at q1
        obtain ⟨_, hlen, hcell⟩ := World.cells?_some q1
        have c0 := hcell 0 (by omega)
        rw [List.getElem?_eq_getElem (by omega)] at c0
        simpa [Addr.add] using World.cell?_spot c0
      have each : ∀ i, i < len → ∃ z : Ht, ∃ pl cl, cell8 w b (o + i * 8) z pl cl ∧ Lbs w pl z.L ∧ ((z.L.length : Int) ≤ 9223372036854775807 ∧ z.L.length ≤ cl) := by
        intro i hi
        obtain ⟨cs', q1, q2⟩ := hx i (by omega)
        obtain ⟨nm, p, L, cl, x, y, rfl, h1, h2, _, _⟩ := host_lies hs hC ho ht hc htS hsL honeL h0L h1L hCL hsN honeN hN hCN q2
        rw [hC] at q1
        obtain ⟨_, _, hcell⟩ := World.cells?_some q1
        have k0 := hcell 0 (by omega)
        have k1 := hcell 1 (by omega)
        have k2 := hcell 2 (by omega)
        have k3 := hcell 3 (by omega)
        have k4 := hcell 4 (by omega)
        have k5 := hcell 5 (by omega)
        have k6 := hcell 6 (by omega)
        have k7 := hcell 7 (by omega)
        rw [add_add, Addr.add_lit] at k0 k1 k2 k3 k4 k5 k6 k7
        refine ⟨⟨nm, L, x, y⟩, p, cl, ⟨⟨?_, ?_⟩, ⟨?_, ?_, ?_⟩, ⟨?_, ?_, ?_⟩⟩, h2, h1⟩
        · simpa using k0
        · simpa [Nat.add_assoc] using k1
        · simpa [Nat.add_assoc] using k2
        · simpa [Nat.add_assoc] using k3
        · simpa [Nat.add_assoc] using k4
        · simpa [Nat.add_assoc] using k5
        · simpa [Nat.add_assoc] using k6
        · simpa [Nat.add_assoc] using k7
      haveI : Inhabited Ht := ⟨⟨ByteArray.empty, [], nz, nz⟩⟩
      obtain ⟨f, hf2⟩ := choose_lt each
      refine ⟨some ⟨b, o, none⟩, (List.range len).map f, cap, by rw [e0]; simp, by simpa using hl, Or.inr ⟨b, o, rfl, ?_, ?_⟩⟩
      · obtain ⟨pl, cl, h8, _⟩ := hf2 0 (by omega)
        exact World.block_lt_of_cell? w _ h8.1.1
      · intro j z hz
        have hj : j < len := by
          have := (List.getElem?_eq_some_iff.1 hz).1
          simpa using this
        have : f j = z := by simpa [hj] using hz
        rw [← this]
        exact hf2 j hj
end
end Go.Proofs.YtelepamnlpebgabDoor
