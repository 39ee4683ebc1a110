/- How long a slice of edges that is handed in can be: what the form's own reach gives. -/
import Derived.Test.YtgcdifpkfpgafaaDoorGop
import Derived.SizedLaws
namespace Go.Proofs.YtgcdifpkfpgafaaDoor
open Go.ChangeShapes Go.WideShapes Go.ChangeAt Go.RowKit Go.Deep
set_option linter.unusedSectionVars false

theorem edges_few {H : Type} {enc : TypeId × Value → H} {P : Program} {W : World} {sp : Nat → Bool} {held : Bool} {t e : TypeId} {q : Option Addr} {n cap : Nat} {d : DataW H} {ps : List MemPlace} (ht : P.underlying t = some (.slice e)) (hB : P.bytesOf e = 16)
    (h : DataW.Trod enc P W 0 sp held t (.slice q n cap) d ps) {ts : List TypeId} {ds : List (DataW H)} {j : Nat} (hsz : (DataW.weightsEach P ts ds).all (· ≤ reachBytes) = true) (hts : ts[j]? = some t) (hds : ds[j]? = some d) : n ≤ 8796093022000 := by
  obtain ⟨fuel, hf⟩ := h
  rcases open_slice ht hf with ⟨hcs, _⟩ | ⟨a, len, cap', m, k, D, Pl, hcs, _, hl, hm, hmm, hx, _⟩
  · have e0 : Value.slice q n cap = .slice none 0 0 := by simpa [Value.cells] using hcs
    cases e0
    omega
  · have e0 : Value.slice q n cap = .slice (some a) len cap' := by simpa [Value.cells] using hcs
    cases e0
    simp only [Prod.mk.injEq] at hx
    obtain ⟨rfl, _⟩ := hx
    have := sized_slice hsz hts hds ht
    rw [hB] at this
    simp only [List.length_map, List.length_range] at this
    have e : reachBytes = 140737488351232 := by decide
    rw [e] at this
    omega
end Go.Proofs.YtgcdifpkfpgafaaDoor
