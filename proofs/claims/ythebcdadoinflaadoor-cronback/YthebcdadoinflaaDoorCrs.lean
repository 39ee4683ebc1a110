/- The closed fact of package cron that the laws ask for first, and the laws' worlds: the contract of 'crons', proved by a walk over its own text. -/
import Derived.Test.YthebcdadoinflaaDoorNex
namespace Go.Proofs.YthebcdadoinflaaDoor
open Go.RowKit Cal Crn

theorem Next_fixed (w : World) (hT : Tb w) :
    Calls Tryd.prog 24 #[.agg #[.int .u64 1, .int .u64 1, .int .u64 4294967294, .int .u64 8190, .int .u64 127], .int .i64 0] w fun e w' => e = .returned (.tuple #[.int .i64 1440, .int .i64 0]) ∧ Below w.heap.size w w' :=
  Next_at ⟨1, 1, 4294967294, 8190, 127⟩ ok_fixed 0 1440 w hT (by omega) (by omega) next_fixed

set_option maxHeartbeats 400000 in
theorem crons_any (w : World) (hT : Tb w) :
    Calls Tryd.prog 12 #[] w fun e w' => e = .returned (.bool true) ∧ Below w.heap.size w w' := by
  go_enter Tryd.func12, Tryd.ntmps12
  go_wp2_with fail
  refine (Next_fixed _ hT).mono ?_
  rintro e w1 ⟨rfl, hb⟩
  go_wp2
  go_ret
  exact ⟨rfl, hb⟩
end Go.Proofs.YthebcdadoinflaaDoor
