/- The small test that each law of the package 'shiftbellkeep' on days begins with answers true wherever the table of the months' lengths lies in its variable. -/
import Derived.Test.YtiocpkpnppgnoabDoorCiv
namespace Go.Proofs.YtiocpkpnppgnoabDoor
open Go.RowKit Cal

set_option maxHeartbeats 400000 in
theorem days_any (w : World) (hT : Tab w) :
    Calls Tryd.prog 6 #[] w fun e w' => e = .returned (.bool true) ∧ w' = w := by
  have hv : vld 1 1 2 = true := by decide
  have hn : num 1 1 2 = 1 := by decide
  go_enter Tryd.func6, Tryd.ntmps6
  go_wp2_with (go_at_call 14; refine (Days_yes _ _ _ _ hT hv).mono ?_; rintro e w' ⟨rfl, rfl⟩)
  go_ret
  exact ⟨rfl, rfl⟩
end Go.Proofs.YtiocpkpnppgnoabDoor
