/- ask.isLabel, walked. -/
import Derived.Test.YtelepamnlpebgabDoorAkm
import Derived.Test.YtelepamnlpebgabDoorShelf
import Derived.Test.YtelepamnlpebgabDoorChecked
import Derived.Shelf.Strings.SlTrimAscii
import Derived.ProofKit
import Derived.WalkKit
namespace Go.Proofs.YtelepamnlpebgabDoor
open Go.RowKit Go.Shelf Akm
set_option linter.unusedSectionVars false
set_option linter.unusedVariables false

def sgL : List UInt8 := [97, 98, 99, 100, 101, 102, 103, 104, 105, 106, 107, 108, 109, 110, 111, 112, 113, 114, 115, 116, 117, 118, 119, 120, 121, 122, 48, 49, 50, 51, 52, 53, 54, 55, 56, 57, 45]
def ltL : List UInt8 := [97, 98, 99, 100, 101, 102, 103, 104, 105, 106, 107, 108, 109, 110, 111, 112, 113, 114, 115, 116, 117, 118, 119, 120, 121, 122]
/-- Is it a LABEL, by the program's own way? -/
def lbB (l : List UInt8) : Bool := !l.isEmpty && (decide (l.length ≤ 20) && ((Lib.trimS l sgL).isEmpty && Lib.contains ltL (l.take 1)))
def TabX (w : World) : Prop := ∃ m, w.cell? ⟨1, 0, none⟩ = some (.int .i64 m)

theorem trim_any (s : ByteArray) (w : World) (hs : (s.size : Int) ≤ 20) : Calls Tryd.prog 86 #[.string s, .string ⟨#[97, 98, 99, 100, 101, 102, 103, 104, 105, 106, 107, 108, 109, 110, 111, 112, 113, 114, 115, 116, 117, 118, 119, 120, 121, 122, 48, 49, 50, 51, 52, 53, 54, 55, 56, 57, 45]⟩] w fun e w' => e = .returned (.string ⟨(Lib.trimS s.data.toList sgL).toArray⟩) ∧ Below w.heap.size w w' :=
  Any.strings_Trim_laid Tryd.lays160 (by kernel_rfl) s ⟨#[97, 98, 99, 100, 101, 102, 103, 104, 105, 106, 107, 108, 109, 110, 111, 112, 113, 114, 115, 116, 117, 118, 119, 120, 121, 122, 48, 49, 50, 51, 52, 53, 54, 55, 56, 57, 45]⟩ w (by omega) (by decide) (ascii_of_all (by decide))
theorem cont_any (s : ByteArray) (w : World) (hX : TabX w) : Calls Tryd.prog 87 #[.string ⟨#[97, 98, 99, 100, 101, 102, 103, 104, 105, 106, 107, 108, 109, 110, 111, 112, 113, 114, 115, 116, 117, 118, 119, 120, 121, 122]⟩, .string s] w fun e w' => e = .returned (.bool (Lib.contains ltL s.data.toList)) ∧ w' = w := by
  obtain ⟨m, hm⟩ := hX
  exact Tryd.strings_Contains ⟨#[97, 98, 99, 100, 101, 102, 103, 104, 105, 106, 107, 108, 109, 110, 111, 112, 113, 114, 115, 116, 117, 118, 119, 120, 121, 122]⟩ s m w (by decide) hm
theorem TabX.below {w w' : World} {B : Nat} (h : TabX w) (hb : Below B w w') (hB : w.heap.size ≤ B) : TabX w' := by
  obtain ⟨m, hm⟩ := h
  exact ⟨m, (hb.cell (p := ⟨1, 0, none⟩) (Nat.lt_of_lt_of_le (World.block_lt_of_cell? w _ hm) hB)).trans hm⟩

set_option maxHeartbeats 1000000 in
set_option maxRecDepth 100000 in
theorem label_any (s : ByteArray) (w : World) (hX : TabX w) : Calls Tryd.prog 70 #[.string s] w fun e w' => e = .returned (.bool (lbB s.data.toList)) ∧ Below w.heap.size w w' := by
  have hlen : s.data.toList.length = s.size := by simp
  have hTL : s.toList = s.data.toList := ByteArray.toList_eq s
  unfold lbB
  cases he : s.data.toList.isEmpty with
  | true =>
    have h0 : s.toList.isEmpty = true := by rw [hTL]; exact he
    clear hlen hTL he hX
    go_enter Tryd.func70, Tryd.ntmps70
    go_wp2_with fail
    go_ret
    exact ⟨by first | rfl | simp, Below.refl _ _⟩
  | false =>
    have h0 : s.toList.isEmpty = false := by rw [hTL]; exact he
    by_cases hl : s.data.toList.length ≤ 20
    · rw [decide_eq_true hl]
      have hli : (s.size : Int) ≤ 20 := by omega
      have hp : (1 : Int) ≤ (s.size : Int) := by
        have : s.data.toList.length ≠ 0 := fun e => by rw [List.eq_nil_of_length_eq_zero e] at he; cases he
        omega
      have htr := fun w1 => trim_any s w1 hli
      have hXb : Hid (∀ w1, Below w.heap.size w w1 → TabX w1) := fun w1 hb => hX.below hb (Nat.le_refl _)
      have hct := cont_any (s.extract 0 1)
      have hex : (s.extract 0 1).data.toList = s.data.toList.take 1 := by simp
      rw [hex] at hct
      generalize Lib.trimS s.data.toList sgL = tr at *
      generalize Lib.contains ltL (s.data.toList.take 1) = c at *
      clear hl hlen hTL he hX hex
      cases ht : tr.isEmpty with
      | true =>
        go_enter Tryd.func70, Tryd.ntmps70
        go_wp2_with (first
          | (go_at_call 86; refine (htr _).mono ?_; rintro e w3 ⟨rfl, hb3⟩; clear htr)
          | (go_at_call 87; refine (hct _ (hXb.out _ hb3)).mono ?_; rintro e w4 ⟨rfl, rfl⟩; clear hct)
          | go_in)
        go_ret
        exact ⟨by first | rfl | simp, hb3⟩
      | false =>
        go_enter Tryd.func70, Tryd.ntmps70
        go_wp2_with (first
          | (go_at_call 86; refine (htr _).mono ?_; rintro e w3 ⟨rfl, hb3⟩; clear htr)
          | go_in)
        go_ret
        exact ⟨by first | rfl | simp, hb3⟩
    · rw [decide_eq_false hl]
      have hli : (20 : Int) < (s.size : Int) := by omega
      clear hl hlen hTL he hX
      go_enter Tryd.func70, Tryd.ntmps70
      go_wp2_with fail
      go_ret
      exact ⟨by first | rfl | simp, Below.refl _ _⟩
end Go.Proofs.YtelepamnlpebgabDoor
