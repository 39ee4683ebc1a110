/- ask.text of an ask AHas, asks(): asks are alive. -/
import Derived.Test.YtelepamnlpebgaaDoorAkk
namespace Go.Proofs.YtelepamnlpebgaaDoor
open Go.RowKit Go.Shelf Akm Ndm
set_option linter.unusedSectionVars false
set_option linter.unusedVariables false

set_option maxHeartbeats 1000000 in
set_option maxRecDepth 100000 in
theorem text_has (a : ByteArray) (ha : a.size ≤ 20) (b : ByteArray) (n : Int) (p : Option Addr) (m cap : Nat) (w : World) : Calls Tryd.prog 28 #[.agg #[.int .i64 1, .string a, .string b, .int .i64 n, .slice p m cap]] w fun e w' => e = .returned (.string (⟨#[63]⟩ ++ a)) ∧ Below w.heap.size w w' := by
  have hsz : (ByteArray.mk #[63]).size = 1 := rfl
  go_enter Tryd.func28, Tryd.ntmps28
  go_wp2
  all_goals (try (exfalso; omega))
  go_ret
  exact ⟨rfl, (Below.refl _ _).alloc (Nat.le_refl _) _⟩

theorem lies_atom (w : World) (k : Int) (a b : ByteArray) (n : Int) : liesT w (.mk k a b n []) (.agg #[.int .i64 k, .string a, .string b, .int .i64 n, .slice none 0 0]) := by
  rw [liesT]
  exact ⟨none, 0, rfl, by simp, Or.inl rfl⟩
theorem ck_a : ckT (.mk 1 ⟨#[97]⟩ ⟨#[]⟩ 0 []) = 0 := by decide +kernel

set_option maxHeartbeats 1000000 in
set_option maxRecDepth 100000 in
theorem Text_a (w : World) (hA : TabA w) : Calls Tryd.prog 9 #[.agg #[.int .i64 1, .string ⟨#[97]⟩, .string ⟨#[]⟩, .int .i64 0, .slice none 0 0]] w fun e w' => e = .returned (.tuple #[.string (⟨#[63]⟩ ++ ⟨#[97]⟩), .int .i64 0]) ∧ Below w.heap.size w w' := by
  have hB : Below w.heap.size w (w.alloc (.cells #[.int .i64 1, .string ⟨#[97]⟩, .string ⟨#[]⟩, .int .i64 0, .slice none 0 0] 24)) := (Below.refl _ _).alloc (Nat.le_refl _) _
  have hBH : Hid (Below w.heap.size w (w.alloc (.cells #[.int .i64 1, .string ⟨#[97]⟩, .string ⟨#[]⟩, .int .i64 0, .slice none 0 0] 24))) := hB
  have h1 : (w.alloc (.cells #[.int .i64 1, .string ⟨#[97]⟩, .string ⟨#[]⟩, .int .i64 0, .slice none 0 0] 24)).heap[w.heap.size]? = some (.cells #[.int .i64 1, .string ⟨#[97]⟩, .string ⟨#[]⟩, .int .i64 0, .slice none 0 0] 24 (0, 0)) := heap_alloc_new _ _
  have hck := Check_any 1 ⟨#[97]⟩ ⟨#[]⟩ 0 [] none 0 0 _ (lies_atom (w.alloc (.cells #[.int .i64 1, .string ⟨#[97]⟩, .string ⟨#[]⟩, .int .i64 0, .slice none 0 0] 24)) 1 ⟨#[97]⟩ ⟨#[]⟩ 0) rfl (hA.below hB (Nat.le_refl _))
  rw [ck_a] at hck
  have htx := fun w1 => text_has ⟨#[97]⟩ (by decide) ⟨#[]⟩ 0 none 0 0 w1
  clear hA hB
  go_enter Tryd.func9, Tryd.ntmps9
  go_wp2_with (first
    | (go_at_call 12; refine hck.mono ?_; rintro e w3 ⟨rfl, hb3⟩; clear hck; obtain ⟨z0, z1, z2, z3, z4⟩ := box5 ((hb3.block w.heap.size (by simp)).trans h1))
    | (go_at_call 28; refine (htx _).mono ?_; rintro e w4 ⟨rfl, hb4⟩; clear htx)
    | go_in)
  go_ret2
  exact ⟨rfl, hBH.out.trans ((hb3.mono hBH.out.size).trans (hb4.mono (Nat.le_trans hBH.out.size hb3.size)))⟩

set_option maxHeartbeats 1000000 in
set_option maxRecDepth 100000 in
theorem asks_any (w : World) (hA : TabA w) : Calls Tryd.prog 24 #[] w fun e w' => e = .returned (.bool true) ∧ Below w.heap.size w w' := by
  have htx := Text_a w hA
  have hs : (ByteArray.mk #[63] ++ ByteArray.mk #[97]).toList = [63, 97] := by decide +kernel
  generalize ByteArray.mk #[63] ++ ByteArray.mk #[97] = s at *
  clear hA
  go_enter Tryd.func24, Tryd.ntmps24
  go_wp2_with (first
    | (go_at_call 9; refine htx.mono ?_; rintro e w3 ⟨rfl, hb3⟩; clear htx)
    | go_in)
  go_ret
  exact ⟨by first | rfl | simp [hs], hb3⟩
end Go.Proofs.YtelepamnlpebgaaDoor
