/- A struct of five fields of one integer kind that is handed over by value: its value written out, and read again. No program is named here. -/
import Derived.ProofKit
import Derived.OpenShut
import Derived.Deep.Fields
namespace Go.Proofs.YthfpdbogbmccjaaDoor
open Go.ChangeShapes Go.WideShapes Go.ChangeAt Go.RowKit Go.Deep

theorem five {α : Type} {cs : Array α} (h : cs.size = 5) : ∃ a b c d e, cs = #[a, b, c, d, e] := by
  obtain ⟨l⟩ := cs
  match l, h with
  | [a, b, c, d, e], _ => exact ⟨a, b, c, d, e, rfl⟩
theorem five_list {α : Type} {l : List α} (h : l.length = 5) : ∃ a b c d e, l = [a, b, c, d, e] := by
  match l, h with
  | [a, b, c, d, e], _ => exact ⟨a, b, c, d, e, rfl⟩

section
variable {H : Type} {enc : TypeId × Value → H} {P : Program} {w : World} {base : Nat} {spare : Nat → Bool} {held : Bool} {t E : TypeId} {k : IntKind}

theorem field_int {fs : Array Field} {n i : Nat} {f : Field} {v : Value} {cs : List Value} {x : DataW H × List MemPlace} (hone : oneCellFields P fs = true) (hi : fs[i]? = some f) (hE : P.underlying f.type = some (.int k))
    (hc : (cs.drop i).take 1 = [v]) (h : DataW.trod enc P w base spare held n f.type ((cs.drop f.offset).take (P.cellsOf f.type)) = some x) :
    ∃ a, v = .int k a ∧ x = (.lit (.int k a), []) ∧ (Lit.int k a).wf = true := by
  obtain ⟨o, c⟩ := hone_of hone i f hi
  rw [o, c, hc] at h
  obtain ⟨a, e, hx, hw⟩ := DataW.trod_int hE h
  exact ⟨a, by simpa using e, hx, hw⟩

theorem open_five {r : Reach} {b0 : Nat} {f0 f1 f2 f3 f4 : Field} {v : Value} {d : DataW H} {p : List MemPlace} (hs : P.underlying t = some (.struct #[f0, f1, f2, f3, f4])) (hone : oneCellFields P #[f0, f1, f2, f3, f4] = true) (hC : P.cellsOf t = 5)
    (hE : P.underlying E = some (.int k)) (ht : f0.type = E ∧ f1.type = E ∧ f2.type = E ∧ f3.type = E ∧ f4.type = E)
    (hv : Value.okWide P w r b0 t v) (h : DataW.Trod enc P w base spare held t v d p) :
    ∃ x0 x1 x2 x3 x4 : Int, v = .agg #[.int k x0, .int k x1, .int k x2, .int k x3, .int k x4] ∧ d = .agg [.lit (.int k x0), .lit (.int k x1), .lit (.int k x2), .lit (.int k x3), .lit (.int k x4)] ∧ p = [] ∧
      ((Lit.int k x0).wf = true ∧ (Lit.int k x1).wf = true ∧ (Lit.int k x2).wf = true ∧ (Lit.int k x3).wf = true ∧ (Lit.int k x4).wf = true) := by
  obtain ⟨cs, rfl, hsz⟩ := okWide_struct hs hv
  obtain ⟨c0, c1, c2, c3, c4, rfl⟩ := five (hsz.trans hC)
  obtain ⟨fuel, hf⟩ := h
  obtain ⟨xs, n, _, hx, _, hlen, hff⟩ := DataW.trod_struct hs hf
  obtain ⟨y0, y1, y2, y3, y4, rfl⟩ := five_list (hlen.trans rfl)
  obtain ⟨t0, t1, t2, t3, t4⟩ := ht
  obtain ⟨x0, rfl, rfl, w0⟩ := field_int (i := 0) (f := f0) (v := c0) hone rfl (by rw [t0]; exact hE) rfl (hff 0 f0 rfl)
  obtain ⟨x1, rfl, rfl, w1⟩ := field_int (i := 1) (f := f1) (v := c1) hone rfl (by rw [t1]; exact hE) rfl (hff 1 f1 rfl)
  obtain ⟨x2, rfl, rfl, w2⟩ := field_int (i := 2) (f := f2) (v := c2) hone rfl (by rw [t2]; exact hE) rfl (hff 2 f2 rfl)
  obtain ⟨x3, rfl, rfl, w3⟩ := field_int (i := 3) (f := f3) (v := c3) hone rfl (by rw [t3]; exact hE) rfl (hff 3 f3 rfl)
  obtain ⟨x4, rfl, rfl, w4⟩ := field_int (i := 4) (f := f4) (v := c4) hone rfl (by rw [t4]; exact hE) rfl (hff 4 f4 rfl)
  simp only [Prod.mk.injEq] at hx
  exact ⟨x0, x1, x2, x3, x4, rfl, by rw [hx.1]; rfl, by rw [hx.2]; rfl, w0, w1, w2, w3, w4⟩

theorem shut_five {f0 f1 f2 f3 f4 : Field} {x0 x1 x2 x3 x4 : Int} (hs : P.underlying t = some (.struct #[f0, f1, f2, f3, f4])) (hone : oneCellFields P #[f0, f1, f2, f3, f4] = true) (hC : P.cellsOf t = 5)
    (hE : P.underlying E = some (.int k)) (ht : f0.type = E ∧ f1.type = E ∧ f2.type = E ∧ f3.type = E ∧ f4.type = E)
    (hw : (Lit.int k x0).wf = true ∧ (Lit.int k x1).wf = true ∧ (Lit.int k x2).wf = true ∧ (Lit.int k x3).wf = true ∧ (Lit.int k x4).wf = true) :
    DataW.Trod enc P w base spare held t (.agg #[.int k x0, .int k x1, .int k x2, .int k x3, .int k x4]) (.agg [.lit (.int k x0), .lit (.int k x1), .lit (.int k x2), .lit (.int k x3), .lit (.int k x4)]) [] := by
  obtain ⟨t0, t1, t2, t3, t4⟩ := ht
  obtain ⟨w0, w1, w2, w3, w4⟩ := hw
  obtain ⟨o0, k0⟩ := hone_of hone 0 f0 rfl
  obtain ⟨o1, _⟩ := hone_of hone 1 f1 rfl
  obtain ⟨o2, _⟩ := hone_of hone 2 f2 rfl
  obtain ⟨o3, _⟩ := hone_of hone 3 f3 rfl
  obtain ⟨o4, _⟩ := hone_of hone 4 f4 rfl
  have kE : P.cellsOf E = 1 := by rw [← t0]; exact k0
  have one : ∀ x : Int, (Lit.int k x).wf = true → DataW.trod enc P w base spare held 1 E [.int k x] = some (.lit (.int k x), []) := fun x hx => by simp [DataW.trod, hE, hx]
  have ts := trod_struct_mk (enc := enc) (w := w) (base := base) (spare := spare) (held := held) (n := 1) (cs := [.int k x0, .int k x1, .int k x2, .int k x3, .int k x4]) (xs := [(.lit (.int k x0), []), (.lit (.int k x1), []), (.lit (.int k x2), []), (.lit (.int k x3), []), (.lit (.int k x4), [])]) hs (by simp [hC])
    (by simp [o0, o1, o2, o3, o4, kE, t0, t1, t2, t3, t4, one _ w0, one _ w1, one _ w2, one _ w3, one _ w4])
  exact ⟨_, by simpa [Value.cells] using ts⟩
end
end Go.Proofs.YthfpdbogbmccjaaDoor
