/- What Match and Next answer, whatever is handed in: some answer, and no memory turned. -/
import Derived.Test.YtbcfdleijpicgaaDoorCrs
namespace Go.Proofs.YtbcfdleijpicgaaDoor
open Go.RowKit Cal Crn

theorem Match_some (c : Cr) (h5 : In5 c) (t : Int) (w : World) (hT : Tb w) :
    Calls Tryd.prog 25 #[.agg #[.int .u64 c.mi, .int .u64 c.ho, .int .u64 c.dm, .int .u64 c.mo, .int .u64 c.dw], .int .i64 t] w fun e w' => ∃ (a : Bool) (k : Int), e = .returned (.tuple #[.bool a, .int .i64 k]) ∧ Below w.heap.size w w' := by
  by_cases hc : okB c = true
  · by_cases ht : t < 0 ∨ 5258964959 < t
    · refine (Match_range c hc t w hT ht).mono ?_
      rintro e w' ⟨rfl, hb⟩
      exact ⟨_, _, rfl, hb⟩
    · refine (Match_yes c hc t w hT (by omega) (by omega)).mono ?_
      rintro e w' ⟨rfl, hb⟩
      exact ⟨_, _, rfl, hb⟩
  · refine (Match_bad c h5 (by simpa using hc) t w hT).mono ?_
    rintro e w' ⟨rfl, hb⟩
    exact ⟨_, _, rfl, hb⟩
end Go.Proofs.YtbcfdleijpicgaaDoor
