/- Package need, walked: Fits, Add, Sub. -/
import Derived.Test.YtelepamnlpebgaaDoorNdw
namespace Go.Proofs.YtelepamnlpebgaaDoor
open Go.RowKit Ndm
set_option linter.unusedSectionVars false
set_option linter.unusedVariables false

theorem results_need {f : Func} {tmps : Array Value} {w : World} {g : Nat} {cs : Array Value} {v : Value} (hf : f.results = #[.cell 4 38, .tmp 5]) (hp : tmps.getD 4 undef = .pointer (some ⟨g, 0, none⟩)) (hg : w.heap[g]? = some (.cells cs 38 (0, 0))) (hcs : cs.size = 3) (h7 : tmps.getD 5 undef = v) : (results f tmps).run Tryd.prog w = .ok (.tuple #[.agg cs, v]) w := by
  have hp' : tmps[4]?.getD undef = .pointer (some ⟨g, 0, none⟩) := by simpa using hp
  have h7' : tmps[5]?.getD undef = v := by simpa using h7
  simp [results, hf, hp', h7', asAddr, run_loadVar_row w g _ 38 cs (0, 0) _ hg Tryd.underlying38 rfl (need_info cs hcs)]

def aR (a b : N3) : N3 := if okN a && okN b then (if okN (addN a b) then addN a b else nz) else nz
def aE (a b : N3) : Int := if okN a && okN b then (if okN (addN a b) then 0 else 2) else 4

def sR (a b : N3) : N3 := if okN a && okN b then (if ftN b a then subN a b else nz) else nz
def sE (a b : N3) : Int := if okN a && okN b then (if ftN b a then 0 else 10) else 4

end Go.Proofs.YtelepamnlpebgaaDoor
