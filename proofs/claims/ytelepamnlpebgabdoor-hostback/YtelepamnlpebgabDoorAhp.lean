/- A host, by value, that is handed in: opened. -/
import Derived.Test.YtelepamnlpebgabDoorAkp
namespace Go.Proofs.YtelepamnlpebgabDoor
open Go.ChangeShapes Go.WideShapes Go.ChangeAt Go.RowKit Go.Deep Akm Ndm
set_option linter.unusedSectionVars false
set_option linter.unusedVariables false

section
variable {H : Type} {enc : TypeId × Value → H} {P : Program} {w : World} {base : Nat} {sp : Nat → Bool} {held : Bool}

theorem two_list {α : Type} {l : List α} (h : l.length = 2) : ∃ a b, l = [a, b] := by
  match l, h with
  | [a, b], _ => exact ⟨a, b, rfl⟩
theorem four_list {α : Type} {l : List α} (h : l.length = 4) : ∃ a b c d, l = [a, b, c, d] := by
  match l, h with
  | [a, b, c, d], _ => exact ⟨a, b, c, d, rfl⟩

/-- A need within a struct. -/
theorem need_lies {tN : TypeId} {n0 n1 n2 : Field} (hs : P.underlying tN = some (.struct #[n0, n1, n2])) (hone : oneCellFields P #[n0, n1, n2] = true)
    (h0 : P.underlying n0.type = some (.int .i64)) (h1 : P.underlying n1.type = some (.int .i64)) (h2 : P.underlying n2.type = some (.int .i64)) (hC : P.cellsOf tN = 3)
    {fuel : Nat} {cs : List Value} {x : DataW H × List MemPlace} (h : DataW.trod enc P w base sp held fuel tN cs = some x) : ∃ a : N3, cs = [.int .i64 a.x, .int .i64 a.y, .int .i64 a.z] ∧ (Lit.int .i64 a.x).wf = true ∧ (Lit.int .i64 a.y).wf = true ∧ (Lit.int .i64 a.z).wf = true := by
  obtain ⟨ys, n, rfl, _, hcl, hlen, hff⟩ := DataW.trod_struct hs h
  obtain ⟨c0, c1, c2, rfl⟩ := three_list (hcl.trans hC)
  obtain ⟨y0, y1, y2, rfl⟩ := three_list (hlen.trans rfl)
  have each : ∀ (i : Nat) (f : Field), #[n0, n1, n2][i]? = some f → DataW.trod enc P w base sp held n f.type (([c0, c1, c2].drop i).take 1) = [y0, y1, y2][i]? := by
    intro i f hi
    have := hff i f hi
    obtain ⟨o, c⟩ := hone_of hone i f hi
    rw [o, c] at this
    exact this
  obtain ⟨a0, rfl, w0⟩ := field_i64 h0 (each 0 n0 rfl)
  obtain ⟨a1, rfl, w1⟩ := field_i64 h1 (each 1 n1 rfl)
  obtain ⟨a2, rfl, w2⟩ := field_i64 h2 (each 2 n2 rfl)
  exact ⟨⟨a0, a1, a2⟩, rfl, w0, w1, w2⟩

/-- A slice of labels. -/
theorem labels_lie {tS tL : TypeId} {g0 g1 : Field} (ht : P.underlying tS = some (.slice tL)) (hs : P.underlying tL = some (.struct #[g0, g1])) (hone : oneCellFields P #[g0, g1] = true)
    (h0 : P.underlying g0.type = some .string) (h1 : P.underlying g1.type = some .string) (hC : P.cellsOf tL = 2)
    {fuel : Nat} {v : Value} {x : DataW H × List MemPlace} (h : DataW.trod enc P w base sp held fuel tS [v] = some x) : ∃ (p : Option Addr) (L : List (ByteArray × ByteArray)) (cl : Nat), v = .slice p L.length cl ∧ ((L.length : Int) ≤ 9223372036854775807 ∧ L.length ≤ cl) ∧ Lbs w p L := by
  rcases open_slice ht h with ⟨e, _⟩ | ⟨a, len, cap, m, n, D, Pl, e, _, hl, hm, hmm, _, hx⟩
  · obtain rfl : v = .slice none 0 0 := by simpa using e
    exact ⟨none, [], 0, rfl, ⟨by simp, by simp⟩, Or.inl rfl⟩
  · obtain rfl : v = .slice (some a) len cap := by simpa using e
    have hlm : len ≤ m := by rw [hmm]; split <;> omega
    have hmx : (len : Int) ≤ 9223372036854775807 := by
      have : maxLen = 9223372036854775807 := by decide
      omega
    by_cases hl0 : len = 0
    · subst hl0
      exact ⟨some a, [], cap, rfl, ⟨by simp, by simp⟩, Or.inl rfl⟩
    · obtain ⟨b, o, s⟩ := a
      obtain rfl : s = none := by
        obtain ⟨cs', q1, _⟩ := hx 0 (by omega)
        rw [hC] at q1
        obtain ⟨_, _, hcell⟩ := World.cells?_some q1
        have c0 := hcell 0 (by omega)
        have hlt : 0 < cs'.length := by have := World.cells?_some q1; omega
        rw [List.getElem?_eq_getElem hlt] at c0
        simpa [Addr.add] using World.cell?_spot c0
      have each2 : ∀ i, i < len → ∃ z : ByteArray × ByteArray, w.cell? ⟨b, o + i * 2, none⟩ = some (.string z.1) ∧ w.cell? ⟨b, o + i * 2 + 1, none⟩ = some (.string z.2) := by
        intro i hi
        obtain ⟨cs', q1, q2⟩ := hx i (by omega)
        rw [hC] at q1
        obtain ⟨_, hlen, hcell⟩ := World.cells?_some q1
        obtain ⟨v0, v1, rfl⟩ := two_list hlen
        obtain ⟨ys, k, rfl, _, _, hyl, hff⟩ := DataW.trod_struct hs q2
        obtain ⟨y0, y1, rfl⟩ := two_list (hyl.trans rfl)
        have f0 := hff 0 g0 rfl
        have f1 := hff 1 g1 rfl
        obtain ⟨o0, k0⟩ := hone_of hone 0 g0 rfl
        obtain ⟨o1, k1⟩ := hone_of hone 1 g1 rfl
        rw [o0, k0] at f0
        rw [o1, k1] at f1
        obtain ⟨s0, rfl, _⟩ := field_str h0 (show DataW.trod enc P w base sp held k g0.type [v0] = some y0 from f0)
        obtain ⟨s1, rfl, _⟩ := field_str h1 (show DataW.trod enc P w base sp held k g1.type [v1] = some y1 from f1)
        have c0 := hcell 0 (by omega)
        have c1 := hcell 1 (by omega)
        rw [add_add, Addr.add_lit] at c0 c1
        exact ⟨(s0, s1), by simpa using c0, by simpa [Nat.add_assoc] using c1⟩
      haveI : Inhabited (ByteArray × ByteArray) := ⟨(ByteArray.empty, ByteArray.empty)⟩
      obtain ⟨f, hf⟩ := choose_lt each2
      refine ⟨some ⟨b, o, none⟩, (List.range len).map f, cap, by simp, ⟨by simpa using hmx, by simpa using hl⟩, Or.inr ⟨b, o, rfl, ?_, ?_⟩⟩
      · exact World.block_lt_of_cell? w _ (hf 0 (by omega)).1
      · intro j z hz
        have hj : j < len := by
          have := (List.getElem?_eq_some_iff.1 hz).1
          simpa using this
        have : f j = z := by simpa [hj] using hz
        rw [← this]
        exact hf j hj

/-- The eight cells of a host. -/
theorem host_lies {tH tS tL tN : TypeId} {f0 f1 f2 f3 g0 g1 n0 n1 n2 : Field} (hs : P.underlying tH = some (.struct #[f0, f1, f2, f3])) (hC : P.cellsOf tH = 8)
    (ho : f0.offset = 0 ∧ f1.offset = 1 ∧ f2.offset = 2 ∧ f3.offset = 5) (ht : P.underlying f0.type = some .string ∧ f1.type = tS ∧ f2.type = tN ∧ f3.type = tN) (hc : P.cellsOf f0.type = 1 ∧ P.cellsOf tS = 1)
    (htS : P.underlying tS = some (.slice tL)) (hsL : P.underlying tL = some (.struct #[g0, g1])) (honeL : oneCellFields P #[g0, g1] = true) (h0L : P.underlying g0.type = some .string) (h1L : P.underlying g1.type = some .string) (hCL : P.cellsOf tL = 2)
    (hsN : P.underlying tN = some (.struct #[n0, n1, n2])) (honeN : oneCellFields P #[n0, n1, n2] = true) (hN : P.underlying n0.type = some (.int .i64) ∧ P.underlying n1.type = some (.int .i64) ∧ P.underlying n2.type = some (.int .i64)) (hCN : P.cellsOf tN = 3)
    {fuel : Nat} {cs : List Value} {x : DataW H × List MemPlace} (h : DataW.trod enc P w base sp held fuel tH cs = some x) :
    ∃ (nm : ByteArray) (p : Option Addr) (L : List (ByteArray × ByteArray)) (cl : Nat) (a b : N3), cs = [.string nm, .slice p L.length cl, .int .i64 a.x, .int .i64 a.y, .int .i64 a.z, .int .i64 b.x, .int .i64 b.y, .int .i64 b.z] ∧ ((L.length : Int) ≤ 9223372036854775807 ∧ L.length ≤ cl) ∧ Lbs w p L ∧
      ((Lit.int .i64 a.x).wf = true ∧ (Lit.int .i64 a.y).wf = true ∧ (Lit.int .i64 a.z).wf = true) ∧ ((Lit.int .i64 b.x).wf = true ∧ (Lit.int .i64 b.y).wf = true ∧ (Lit.int .i64 b.z).wf = true) := by
  obtain ⟨ys, n, rfl, _, hcl, hlen, hff⟩ := DataW.trod_struct hs h
  obtain ⟨c0, c1, c2, c3, c4, c5, c6, c7, rfl⟩ := eight_list (hcl.trans hC)
  obtain ⟨y0, y1, y2, y3, rfl⟩ := four_list (hlen.trans rfl)
  have e0 := hff 0 f0 rfl
  have e1 := hff 1 f1 rfl
  have e2 := hff 2 f2 rfl
  have e3 := hff 3 f3 rfl
  rw [ho.1, hc.1] at e0
  rw [ho.2.1, ht.2.1, hc.2] at e1
  rw [ho.2.2.1, ht.2.2.1, hCN] at e2
  rw [ho.2.2.2, ht.2.2.2, hCN] at e3
  obtain ⟨nm, rfl, _⟩ := field_str ht.1 (show DataW.trod enc P w base sp held n f0.type [c0] = some y0 from e0)
  obtain ⟨p, L, cl, rfl, hL1, hL2⟩ := labels_lie htS hsL honeL h0L h1L hCL (show DataW.trod enc P w base sp held n tS [c1] = some y1 from e1)
  obtain ⟨a, ha, wa⟩ := need_lies hsN honeN hN.1 hN.2.1 hN.2.2 hCN (show DataW.trod enc P w base sp held n tN [c2, c3, c4] = some y2 from e2)
  obtain ⟨b, hb, wb⟩ := need_lies hsN honeN hN.1 hN.2.1 hN.2.2 hCN (show DataW.trod enc P w base sp held n tN [c5, c6, c7] = some y3 from e3)
  simp only [List.cons.injEq, and_true] at ha hb
  obtain ⟨rfl, rfl, rfl⟩ := ha
  obtain ⟨rfl, rfl, rfl⟩ := hb
  exact ⟨nm, p, L, cl, a, b, rfl, hL1, hL2, wa, wb⟩

theorem open_host {r : Reach} {b0 : Nat} {v : Value} {d : DataW H} {ps : List MemPlace} {tH tS tL tN : TypeId} {f0 f1 f2 f3 g0 g1 n0 n1 n2 : Field} (hs : P.underlying tH = some (.struct #[f0, f1, f2, f3])) (hC : P.cellsOf tH = 8)
    (ho : f0.offset = 0 ∧ f1.offset = 1 ∧ f2.offset = 2 ∧ f3.offset = 5) (ht : P.underlying f0.type = some .string ∧ f1.type = tS ∧ f2.type = tN ∧ f3.type = tN) (hc : P.cellsOf f0.type = 1 ∧ P.cellsOf tS = 1)
    (htS : P.underlying tS = some (.slice tL)) (hsL : P.underlying tL = some (.struct #[g0, g1])) (honeL : oneCellFields P #[g0, g1] = true) (h0L : P.underlying g0.type = some .string) (h1L : P.underlying g1.type = some .string) (hCL : P.cellsOf tL = 2)
    (hsN : P.underlying tN = some (.struct #[n0, n1, n2])) (honeN : oneCellFields P #[n0, n1, n2] = true) (hN : P.underlying n0.type = some (.int .i64) ∧ P.underlying n1.type = some (.int .i64) ∧ P.underlying n2.type = some (.int .i64)) (hCN : P.cellsOf tN = 3)
    (hv : Value.okWide P w r b0 tH v) (h : DataW.Trod enc P w base sp held tH v d ps) :
    ∃ (nm : ByteArray) (p : Option Addr) (L : List (ByteArray × ByteArray)) (cl : Nat) (a b : N3), v = .agg #[.string nm, .slice p L.length cl, .int .i64 a.x, .int .i64 a.y, .int .i64 a.z, .int .i64 b.x, .int .i64 b.y, .int .i64 b.z] ∧ (L.length : Int) ≤ 9223372036854775807 ∧ Lbs w p L := by
  obtain ⟨cs, rfl, hsz⟩ := okWide_struct hs hv
  obtain ⟨fuel, hf⟩ := h
  obtain ⟨nm, p, L, cl, a, b, e, h1, h2, _, _⟩ := host_lies hs hC ho ht hc htS hsL honeL h0L h1L hCL hsN honeN hN hCN hf
  obtain ⟨l⟩ := cs
  simp [Value.cells] at e
  subst e
  exact ⟨nm, p, L, cl, a, b, rfl, h1.1, h2⟩
end
end Go.Proofs.YtelepamnlpebgabDoor
