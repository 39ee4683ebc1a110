/- 'good' answers true where every error that is handed in is nought. -/
import Derived.Test.YtbcfdleijpicgaaDoorProg
import Derived.WalkKit
import Derived.WalkSpells
import Derived.WalkLawsBesides
namespace Go.Proofs.YtbcfdleijpicgaaDoor
open Go.RowKit

set_option maxHeartbeats 400000 in
theorem isBad_any (e : Int) (w : World) :
    Calls Tryd.prog 38 #[.int .i64 e] w fun r w' => r = .returned (.bool (e != 0)) ∧ w' = w := by
  go_enter Tryd.func38, Tryd.ntmps38
  go_wp2
  go_ret
  exact ⟨rfl, rfl⟩

set_option maxHeartbeats 400000 in
theorem indexBad_none (b n : Nat) (w : World) (hc : ∀ k : Nat, k < n → w.cell? ⟨b, k, none⟩ = some (.int .i64 0)) (hn : n ≤ 10) :
    Calls Tryd.prog 64 #[.slice (some ⟨b, 0, none⟩) n n, .func (Fn.func 38) #[] #[]] w fun e w' => e = .returned (.int .i64 (-1)) ∧ w' = w := by
  have HC : Hid (∀ k : Nat, k < n → w.cell? ⟨b, k, none⟩ = some (.int .i64 0)) := hc
  clear hc
  go_enter Tryd.func64, Tryd.ntmps64
  go_wp2
  go_loop [8] (fun i => ∃ k : Nat, k ≤ n ∧ i = .int .i64 k) (fun i => n - (intOf i).toNat)
  case atStart => exact ⟨0, Nat.zero_le _, rfl⟩
  case round =>
    obtain ⟨k, hk, rfl⟩ := hrel
    by_cases hlt : k < n
    · have hcell := HC.out k hlt
      go_wp2_with (go_at_call 38; refine (isBad_any _ _).mono ?_; rintro e w' ⟨rfl, rfl⟩)
      go_round
      case rel => exact ⟨k + 1, by omega, by go_num⟩
      case measure => simp [intOf]; omega
    · go_wp2
      go_ret
      exact ⟨rfl, rfl⟩

set_option maxHeartbeats 400000 in
theorem good_yes (b n : Nat) (w : World) (hc : ∀ k : Nat, k < n → w.cell? ⟨b, k, none⟩ = some (.int .i64 0)) (hn : n ≤ 10) :
    Calls Tryd.prog 16 #[.slice (some ⟨b, 0, none⟩) n n] w fun e w' => e = .returned (.bool true) ∧ w' = w := by
  have HC : Hid (∀ k : Nat, k < n → w.cell? ⟨b, k, none⟩ = some (.int .i64 0)) := hc
  clear hc
  go_enter Tryd.func16, Tryd.ntmps16
  go_wp2_with (first | (go_at_call 37; go_in) | (go_at_call 64; refine (indexBad_none _ _ _ HC.out hn).mono ?_; rintro e w' ⟨rfl, rfl⟩))
  go_ret
  exact ⟨rfl, rfl⟩

theorem good3 (w : World) (T : TypeId) :
    Calls Tryd.prog 16 #[.slice (some ⟨w.heap.size, 0, none⟩) 3 3] (w.alloc (.cells #[.int .i64 0, .int .i64 0, .int .i64 0] T)) fun e w' => e = .returned (.bool true) ∧ w' = w.alloc (.cells #[.int .i64 0, .int .i64 0, .int .i64 0] T) := by
  refine good_yes _ 3 _ (fun k hk => ?_) (by omega)
  rcases (show k = 0 ∨ k = 1 ∨ k = 2 by omega) with e | e | e <;> subst e <;> simp [go_sem]
theorem good2 (w : World) (T : TypeId) :
    Calls Tryd.prog 16 #[.slice (some ⟨w.heap.size, 0, none⟩) 2 2] (w.alloc (.cells #[.int .i64 0, .int .i64 0] T)) fun e w' => e = .returned (.bool true) ∧ w' = w.alloc (.cells #[.int .i64 0, .int .i64 0] T) := by
  refine good_yes _ 2 _ (fun k hk => ?_) (by omega)
  rcases (show k = 0 ∨ k = 1 by omega) with e | e <;> subst e <;> simp [go_sem]
theorem good4 (w : World) (T : TypeId) :
    Calls Tryd.prog 16 #[.slice (some ⟨w.heap.size, 0, none⟩) 4 4] (w.alloc (.cells #[.int .i64 0, .int .i64 0, .int .i64 0, .int .i64 0] T)) fun e w' => e = .returned (.bool true) ∧ w' = w.alloc (.cells #[.int .i64 0, .int .i64 0, .int .i64 0, .int .i64 0] T) := by
  refine good_yes _ 4 _ (fun k hk => ?_) (by omega)
  rcases (show k = 0 ∨ k = 1 ∨ k = 2 ∨ k = 3 by omega) with e | e | e | e <;> subst e <;> simp [go_sem]
end Go.Proofs.YtbcfdleijpicgaaDoor
