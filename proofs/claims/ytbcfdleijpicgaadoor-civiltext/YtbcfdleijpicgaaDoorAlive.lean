/- The small test that each law of the package 'shiftbellkeep' on days begins with answers true wherever the table of the months' lengths lies in its variable. -/
import Derived.Test.YtbcfdleijpicgaaDoorCiv
namespace Go.Proofs.YtbcfdleijpicgaaDoor
open Go.RowKit Cal

set_option maxHeartbeats 400000 in
theorem days_any (w : World) (hT : Tab w) :
    Calls Tryd.prog 15 #[] w fun e w' => e = .returned (.bool true) ∧ w' = w := by
  have hv : vld 1 1 2 = true := by decide
  have hn : num 1 1 2 = 1 := by decide
  go_enter Tryd.func15, Tryd.ntmps15
  go_wp2_with (go_at_call 36; refine (Days_yes _ _ _ _ hT hv).mono ?_; rintro e w' ⟨rfl, rfl⟩)
  go_ret
  exact ⟨rfl, rfl⟩
end Go.Proofs.YtbcfdleijpicgaaDoor
