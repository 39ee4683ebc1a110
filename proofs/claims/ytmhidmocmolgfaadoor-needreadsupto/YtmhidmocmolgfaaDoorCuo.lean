/- strings.Cut at a one-byte separator, at a text of any length. -/
import Derived.Test.YtmhidmocmolgfaaDoorShelf
import Derived.Test.YtmhidmocmolgfaaDoorChecked
import Derived.Lib.CutLaws
import Derived.Lib.IndexBytes
import Derived.WalkKit
import Derived.ProofKit
namespace Go.Proofs.YtmhidmocmolgfaaDoor
open Go.RowKit Go.Shelf
set_option linter.unusedSectionVars false
set_option linter.unusedVariables false

theorem idx_one (s : ByteArray) (c : UInt8) (w : World) : Calls Tryd.prog 113 #[.string s, .string ⟨#[c]⟩] w fun e w' => e = .returned (.int .i64 (Lib.index s.data.toList [c])) ∧ w' = w := by
  rw [Lib.index_one]
  exact Any.stringslite_Index_one { Tryd.lays145 with } s c w

set_option maxHeartbeats 2000000 in
set_option maxRecDepth 100000 in
theorem cutS_one (s : ByteArray) (c : UInt8) (w : World) (hs : s.size ≤ maxLen) : Calls Tryd.prog 99 #[.string s, .string ⟨#[c]⟩] w fun e w' => e = .returned (.tuple #[.string ⟨(Lib.cut s.data.toList [c]).1.toArray⟩, .string ⟨(Lib.cut s.data.toList [c]).2.1.toArray⟩, .bool (Lib.cut s.data.toList [c]).2.2]) ∧ ∃ n, w' = w.drewN n := by
  have hi := idx_one s c w
  have hsz : ((⟨#[c]⟩ : ByteArray).size) = 1 := rfl
  unfold maxLen at hs
  rcases Lib.indexB_cases s ⟨#[c]⟩ with hix | ⟨i, hix, hroom⟩
  · obtain ⟨e1, e2, e3⟩ := Lib.cutB_miss s ⟨#[c]⟩ hix
    have e1' : (⟨(Lib.cut s.data.toList [c]).1.toArray⟩ : ByteArray) = s := e1
    have e2' : (⟨(Lib.cut s.data.toList [c]).2.1.toArray⟩ : ByteArray) = ByteArray.empty := e2
    have e3' : (Lib.cut s.data.toList [c]).2.2 = false := e3
    rw [e1', e2', e3']
    rw [show Lib.index s.data.toList [c] = -1 from hix] at hi
    clear hix e1 e2 e3 e1' e2' e3' hsz
    go_enter Tryd.func99, Tryd.ntmps99
    go_wp2_with (first | (go_at_call 113; refine hi.mono ?_; rintro e w' ⟨rfl, rfl⟩; clear hi) | go_in)
    go_ret3
    exact ⟨rfl, 0, rfl⟩
  · obtain ⟨e1, e2, e3⟩ := Lib.cutB_hit s ⟨#[c]⟩ i hix
    have e1' : (⟨(Lib.cut s.data.toList [c]).1.toArray⟩ : ByteArray) = s.extract 0 i := e1
    have e2' : (⟨(Lib.cut s.data.toList [c]).2.1.toArray⟩ : ByteArray) = s.extract (i + 1) s.size := e2
    have e3' : (Lib.cut s.data.toList [c]).2.2 = true := e3
    rw [e1', e2', e3']
    rw [show Lib.index s.data.toList [c] = (i : Int) from hix] at hi
    rw [hsz] at hroom
    have c1 : (0 : Int) ≤ ↑i := by omega
    have c2 : (↑i : Int) ≤ ↑s.size := by omega
    have c3 : (0 : Int) ≤ ↑i + 1 := by omega
    have c4 : (↑i + 1 : Int) ≤ ↑s.size := by omega
    clear hix e1 e2 e3 e1' e2' e3' hsz
    go_enter Tryd.func99, Tryd.ntmps99
    go_wp2_with (first | (go_at_call 113; refine hi.mono ?_; rintro e w' ⟨rfl, rfl⟩; clear hi) | go_in)
    go_region
    go_wp2
    go_ret3
    exact ⟨rfl, 1, rfl⟩

set_option maxRecDepth 100000 in
theorem cut_one (s : ByteArray) (c : UInt8) (w : World) (hs : s.size ≤ maxLen) : Calls Tryd.prog 69 #[.string s, .string ⟨#[c]⟩] w fun e w' => e = .returned (.tuple #[.string ⟨(Lib.cut s.data.toList [c]).1.toArray⟩, .string ⟨(Lib.cut s.data.toList [c]).2.1.toArray⟩, .bool (Lib.cut s.data.toList [c]).2.2]) ∧ ∃ n, w' = w.drewN n := by
  have hc := cutS_one s c w hs
  generalize (Lib.cut s.data.toList [c]).1 = a at *
  generalize (Lib.cut s.data.toList [c]).2.1 = b at *
  generalize (Lib.cut s.data.toList [c]).2.2 = d at *
  go_enter Tryd.func69, Tryd.ntmps69
  go_wp2_with (first | (go_at_call 99; refine hc.mono ?_; rintro e w' ⟨rfl, n, rfl⟩; clear hc) | go_in)
  go_ret3
  exact ⟨rfl, n, rfl⟩
end Go.Proofs.YtmhidmocmolgfaaDoor
