/- Package need, walked: Sum. -/
import Derived.Test.YtmhidmocmolgfaaDoorNdc
namespace Go.Proofs.YtmhidmocmolgfaaDoor
open Go.RowKit Ndm
set_option linter.unusedSectionVars false
set_option linter.unusedVariables false

theorem results_needB {f : Func} {tmps : Array Value} {w : World} {g : Nat} {cs : Array Value} {v : Value} (hf : f.results = #[.cell 2 23, .tmp 3]) (hp : tmps.getD 2 undef = .pointer (some ⟨g, 0, none⟩)) (hg : w.heap[g]? = some (.cells cs 23 (0, 0))) (hcs : cs.size = 3) (h7 : tmps.getD 3 undef = v) : (results f tmps).run Tryd.prog w = .ok (.tuple #[.agg cs, v]) w := by
  have hp' : tmps[2]?.getD undef = .pointer (some ⟨g, 0, none⟩) := by simpa using hp
  have h7' : tmps[3]?.getD undef = v := by simpa using h7
  simp [results, hf, hp', h7', asAddr, run_loadVar_row w g _ 23 cs (0, 0) _ hg Tryd.underlying23 rfl (need_info cs hcs)]

def uR (l : List N3) : N3 := if okL l then (match smL l nz with | some t => t | none => nz) else nz
def uE (l : List N3) : Int := if okL l then (match smL l nz with | some _ => 0 | none => 2) else 4
theorem aR_ok {a b : N3} (h1 : okN a = true) (h2 : okN b = true) (h3 : okN (addN a b) = true) : aR a b = addN a b ∧ aE a b = 0 := by
  unfold aR aE
  rw [h1, h2, h3]
  exact ⟨rfl, rfl⟩
theorem aR_no {a b : N3} (h1 : okN a = true) (h2 : okN b = true) (h3 : okN (addN a b) = false) : aR a b = nz ∧ aE a b = 2 := by
  unfold aR aE
  rw [h1, h2, h3]
  exact ⟨rfl, rfl⟩
theorem aR_bad {a b : N3} (h : (okN a && okN b) = false) : aR a b = nz ∧ aE a b = 4 := by
  unfold aR aE
  rw [h]
  exact ⟨rfl, rfl⟩

end Go.Proofs.YtmhidmocmolgfaaDoor
