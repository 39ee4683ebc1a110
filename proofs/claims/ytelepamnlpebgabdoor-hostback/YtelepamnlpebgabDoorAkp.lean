/- An ask that is handed in, opened: its parts lie in memory. A host that is handed in by value. -/
import Derived.Test.YtelepamnlpebgabDoorAki
import Derived.Test.YtelepamnlpebgabDoorAls
import Derived.Test.YtelepamnlpebgabDoorAgt
import Derived.Deep.Slices
import Derived.Deep.DeepHandedRow
namespace Go.Proofs.YtelepamnlpebgabDoor
open Go.ChangeShapes Go.WideShapes Go.ChangeAt Go.RowKit Go.Deep Akm Ndm
set_option linter.unusedSectionVars false
set_option linter.unusedVariables false

theorem five_list {α : Type} {l : List α} (h : l.length = 5) : ∃ a b c d e, l = [a, b, c, d, e] := by
  match l, h with
  | [a, b, c, d, e], _ => exact ⟨a, b, c, d, e, rfl⟩
theorem eight_list {α : Type} {l : List α} (h : l.length = 8) : ∃ a b c d e f g i, l = [a, b, c, d, e, f, g, i] := by
  match l, h with
  | [a, b, c, d, e, f, g, i], _ => exact ⟨a, b, c, d, e, f, g, i, rfl⟩

section
variable {H : Type} {enc : TypeId × Value → H} {P : Program} {w : World} {base : Nat} {sp : Nat → Bool} {held : Bool}

theorem field_str {n : Nat} {t : TypeId} {v : Value} {x : DataW H × List MemPlace} (hE : P.underlying t = some .string) (h : DataW.trod enc P w base sp held n t [v] = some x) : ∃ a : ByteArray, v = .string a ∧ a.size ≤ maxLen := by
  obtain ⟨a, e, _, hs⟩ := DataW.trod_string hE h
  exact ⟨a, by simpa using e, hs⟩
theorem field_i64 {n : Nat} {t : TypeId} {v : Value} {x : DataW H × List MemPlace} (hE : P.underlying t = some (.int .i64)) (h : DataW.trod enc P w base sp held n t [v] = some x) : ∃ a : Int, v = .int .i64 a ∧ (Lit.int .i64 a).wf = true := by
  obtain ⟨a, e, _, hw⟩ := DataW.trod_int hE h
  exact ⟨a, by simpa using e, hw⟩

theorem liesL_of {w : World} {g : Nat} : ∀ (len o : Nat), (∀ i, i < len → ∃ c0 c1 c2 c3 c4 t, cell5 w g (o + i * 5) c0 c1 c2 c3 c4 ∧ liesT w t (.agg #[c0, c1, c2, c3, c4])) → ∃ xs, xs.length = len ∧ liesL w g o xs
  | 0, o, _ => ⟨[], rfl, by rw [liesL]; trivial⟩
  | len + 1, o, h => by
    obtain ⟨c0, c1, c2, c3, c4, t, h0, h1⟩ := h 0 (by omega)
    obtain ⟨xs, hl, hx⟩ := liesL_of (w := w) (g := g) len (o + 5) (fun i hi => by
      have := h (i + 1) (by omega)
      rw [show o + (i + 1) * 5 = o + 5 + i * 5 by omega] at this
      exact this)
    refine ⟨t :: xs, by simp [hl], ?_⟩
    rw [liesL]
    exact ⟨⟨c0, c1, c2, c3, c4, by simpa using h0, h1⟩, hx⟩

theorem cells5 {tA : TypeId} {a : Addr} {base : Nat} {cs : List Value} (hC : P.cellsOf tA = 5) (h : w.cells? base a (P.cellsOf tA) = some cs) : ∃ c0 c1 c2 c3 c4 g o, cs = [c0, c1, c2, c3, c4] ∧ a = ⟨g, o, none⟩ ∧ g < w.heap.size ∧ cell5 w g o c0 c1 c2 c3 c4 := by
  rw [hC] at h
  obtain ⟨_, hlen, hcell⟩ := World.cells?_some h
  obtain ⟨c0, c1, c2, c3, c4, rfl⟩ := five_list hlen
  obtain ⟨g, o, s⟩ := a
  have k0 := hcell 0 (by omega)
  obtain rfl : s = none := by simpa [Addr.add] using World.cell?_spot k0
  have k1 := hcell 1 (by omega)
  have k2 := hcell 2 (by omega)
  have k3 := hcell 3 (by omega)
  have k4 := hcell 4 (by omega)
  rw [Addr.add_lit] at k0 k1 k2 k3 k4
  exact ⟨c0, c1, c2, c3, c4, g, o, rfl, rfl, World.block_lt_of_cell? w _ k0, by simpa using k0, by simpa using k1, by simpa using k2, by simpa using k3, by simpa using k4⟩

theorem ask_lies {tA : TypeId} {f0 f1 f2 f3 f4 : Field} (hs : P.underlying tA = some (.struct #[f0, f1, f2, f3, f4])) (hone : oneCellFields P #[f0, f1, f2, f3, f4] = true) (hC : P.cellsOf tA = 5)
    (h0 : P.underlying f0.type = some (.int .i64)) (h1 : P.underlying f1.type = some .string) (h2 : P.underlying f2.type = some .string) (h3 : P.underlying f3.type = some (.int .i64)) (h4 : P.underlying f4.type = some (.slice tA)) :
    ∀ (fuel : Nat) (cs : List Value) (x : DataW H × List MemPlace), DataW.trod enc P w base sp held fuel tA cs = some x → ∃ c0 c1 c2 c3 c4 t, cs = [c0, c1, c2, c3, c4] ∧ liesT w t (.agg #[c0, c1, c2, c3, c4]) := by
  intro fuel
  induction fuel using Nat.strongRecOn with
  | ind fuel IH =>
    intro cs x h
    obtain ⟨ys, n, rfl, _, hcl, hlen, hff⟩ := DataW.trod_struct hs h
    obtain ⟨c0, c1, c2, c3, c4, rfl⟩ := five_list (hcl.trans hC)
    obtain ⟨y0, y1, y2, y3, y4, rfl⟩ := five_list (hlen.trans rfl)
    have each : ∀ (i : Nat) (f : Field), #[f0, f1, f2, f3, f4][i]? = some f → DataW.trod enc P w base sp held n f.type (([c0, c1, c2, c3, c4].drop i).take 1) = [y0, y1, y2, y3, y4][i]? := by
      intro i f hi
      have := hff i f hi
      obtain ⟨o, c⟩ := hone_of hone i f hi
      rw [o, c] at this
      exact this
    obtain ⟨a0, rfl, w0⟩ := field_i64 h0 (each 0 f0 rfl)
    obtain ⟨a1, rfl, w1⟩ := field_str h1 (each 1 f1 rfl)
    obtain ⟨a2, rfl, w2⟩ := field_str h2 (each 2 f2 rfl)
    obtain ⟨a3, rfl, w3⟩ := field_i64 h3 (each 3 f3 rfl)
    have e4 := each 4 f4 rfl
    rcases DataW.trod_slice h4 e4 with ⟨e, _⟩ | ⟨a, len, cap, elems, rest, m, rfl, e, _, hb, hl, hm, hel, hx, _, _⟩
    · obtain rfl : c4 = .slice none 0 0 := by simpa using e
      refine ⟨_, _, _, _, _, .mk a0 a1 a2 a3 [], rfl, ?_⟩
      rw [liesT]
      exact ⟨none, 0, rfl, by simp, Or.inl rfl⟩
    · obtain rfl : c4 = .slice (some a) len cap := by simpa using e
      have hmx : (len : Int) ≤ 9223372036854775807 := by
        have : maxLen = 9223372036854775807 := by decide
        omega
      by_cases hl0 : len = 0
      · subst hl0
        refine ⟨_, _, _, _, _, .mk a0 a1 a2 a3 [], rfl, ?_⟩
        rw [liesT]
        exact ⟨some a, cap, rfl, by simp, Or.inl rfl⟩
      · have get : ∀ i, i < len → ∃ cs', w.cells? base (a.add (i * P.cellsOf tA)) (P.cellsOf tA) = some cs' ∧ ∃ y, DataW.trod enc P w base sp held m tA cs' = some y := by
          intro i hi
          have := hx i hi
          rw [List.getElem?_eq_getElem (by omega), Option.bind_eq_some_iff] at this
          obtain ⟨cs', g1, g2⟩ := this
          exact ⟨cs', g1, _, g2⟩
        obtain ⟨b, o, s⟩ := a
        obtain rfl : s = none := by
          obtain ⟨cs', g1, _⟩ := get 0 (by omega)
          obtain ⟨_, _, _, _, _, g, o2, _, e2, _⟩ := cells5 hC g1
          simp [Addr.add] at e2
          exact e2.2.2
        have hblt : b < w.heap.size := by
          obtain ⟨cs', g1, _⟩ := get 0 (by omega)
          obtain ⟨_, _, _, _, _, g, o2, _, e2, hg, _⟩ := cells5 hC g1
          simp [Addr.add] at e2
          omega
        obtain ⟨xs, hxl, hxs⟩ := liesL_of (w := w) (g := b) len o (fun i hi => by
          obtain ⟨cs', g1, y, g2⟩ := get i hi
          obtain ⟨t0, t1, t2, t3, t4, g, o2, rfl, e2, hg, h5⟩ := cells5 hC g1
          obtain ⟨u0, u1, u2, u3, u4, t, e3, hL⟩ := IH m (by omega) _ _ g2
          simp only [List.cons.injEq, and_true] at e3
          obtain ⟨rfl, rfl, rfl, rfl, rfl⟩ := e3
          rw [hC, Addr.add_lit] at e2
          simp only [Addr.mk.injEq, and_true] at e2
          obtain ⟨hg1, hg2⟩ := e2
          rw [← hg1, ← hg2] at h5
          exact ⟨_, _, _, _, _, t, h5, hL⟩)
        refine ⟨_, _, _, _, _, .mk a0 a1 a2 a3 xs, rfl, ?_⟩
        rw [liesT]
        exact ⟨some ⟨b, o, none⟩, cap, by rw [hxl], by rw [hxl]; exact hmx, Or.inr ⟨b, o, rfl, hblt, hxs⟩⟩

/-- An ask by value. -/
theorem open_ask {r : Reach} {b0 : Nat} {tA : TypeId} {f0 f1 f2 f3 f4 : Field} {v : Value} {d : DataW H} {ps : List MemPlace} (hs : P.underlying tA = some (.struct #[f0, f1, f2, f3, f4])) (hone : oneCellFields P #[f0, f1, f2, f3, f4] = true) (hC : P.cellsOf tA = 5)
    (h0 : P.underlying f0.type = some (.int .i64)) (h1 : P.underlying f1.type = some .string) (h2 : P.underlying f2.type = some .string) (h3 : P.underlying f3.type = some (.int .i64)) (h4 : P.underlying f4.type = some (.slice tA))
    (hv : Value.okWide P w r b0 tA v) (h : DataW.Trod enc P w base sp held tA v d ps) : ∃ t, liesT w t v := by
  obtain ⟨cs, rfl, hsz⟩ := okWide_struct hs hv
  obtain ⟨fuel, hf⟩ := h
  obtain ⟨c0, c1, c2, c3, c4, t, e, hL⟩ := ask_lies hs hone hC h0 h1 h2 h3 h4 fuel _ _ hf
  obtain ⟨l⟩ := cs
  simp [Value.cells] at e
  subst e
  exact ⟨t, hL⟩
end
end Go.Proofs.YtelepamnlpebgabDoor
