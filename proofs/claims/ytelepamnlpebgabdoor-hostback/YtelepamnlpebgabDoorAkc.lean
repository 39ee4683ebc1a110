/- ask.isFormed, checkAlone, walked. -/
import Derived.Test.YtelepamnlpebgabDoorAkw
import Derived.Test.YtelepamnlpebgabDoorAkb
import Derived.Test.YtelepamnlpebgabDoorNam
namespace Go.Proofs.YtelepamnlpebgabDoor
open Go.RowKit Go.Shelf Akm Ndm
set_option linter.unusedSectionVars false
set_option linter.unusedVariables false

/-- Key and Value are as they should be. -/
def fmB (k : Int) (key val : ByteArray) : Bool := if k = 1 then lbB key.data.toList else if k = 2 then (lbB key.data.toList && lbB val.data.toList) else if k = 3 then amB key.data.toList else true
/-- What is wrong with one alone. -/
def chE (k : Int) (key val : ByteArray) (n : Int) (m : Nat) : Int := if (!knK k || ((m : Int) != inK k || hoB k key val n m)) = true then 1 else if fmB k key val = false then 3 else if n < 0 then 4 else if 1099511627776 < n then 4 else 0
def TabA (w : World) : Prop := TabM w ∧ TabX w
theorem TabA.below {w w' : World} {B : Nat} (h : TabA w) (hb : Below B w w') (hB : w.heap.size ≤ B) : TabA w' := ⟨h.1.below hb hB, h.2.below hb hB⟩
/-- The five cells of a box. -/
theorem box5 {w : World} {g : Nat} {c0 c1 c2 c3 c4 : Value} (h : w.heap[g]? = some (.cells #[c0, c1, c2, c3, c4] 25 (0, 0))) : w.cell? ⟨g, 0, none⟩ = some c0 ∧ w.cell? ⟨g, 1, none⟩ = some c1 ∧ w.cell? ⟨g, 2, none⟩ = some c2 ∧ w.cell? ⟨g, 3, none⟩ = some c3 ∧ w.cell? ⟨g, 4, none⟩ = some c4 :=
  ⟨(cell_of_row _ _ 0 _ _ _ h).trans rfl, (cell_of_row _ _ 1 _ _ _ h).trans rfl, (cell_of_row _ _ 2 _ _ _ h).trans rfl, (cell_of_row _ _ 3 _ _ _ h).trans rfl, (cell_of_row _ _ 4 _ _ _ h).trans rfl⟩
theorem Amount_zero (key : ByteArray) (w : World) (hM : TabM w) : Calls Tryd.prog 75 #[.agg #[.int .i64 0, .int .i64 0, .int .i64 0], .string key] w fun e w' => e = .returned (.tuple #[.int .i64 (amV nz key.data.toList), .bool (amB key.data.toList)]) ∧ Below w.heap.size w w' := by
  have := Amount_any nz key.data.toList w hM
  have e : (⟨key.data.toList.toArray⟩ : ByteArray) = key := by cases key; rfl
  rw [e] at this
  exact this

set_option maxHeartbeats 1000000 in
set_option maxRecDepth 100000 in
theorem formed_any (k : Int) (key val : ByteArray) (n : Int) (p : Option Addr) (m cap : Nat) (w : World) (hA : TabA w) : Calls Tryd.prog 84 #[.agg #[.int .i64 k, .string key, .string val, .int .i64 n, .slice p m cap]] w fun e w' => e = .returned (.bool (fmB k key val)) ∧ Below w.heap.size w w' := by
  have h1 : (w.alloc (.cells #[.int .i64 k, .string key, .string val, .int .i64 n, .slice p m cap] 25)).heap[w.heap.size]? = some (.cells #[.int .i64 k, .string key, .string val, .int .i64 n, .slice p m cap] 25 (0, 0)) := heap_alloc_new _ _
  have hB : Below w.heap.size w (w.alloc (.cells #[.int .i64 k, .string key, .string val, .int .i64 n, .slice p m cap] 25)) := (Below.refl _ _).alloc (Nat.le_refl _) _
  have hBH : Hid (Below w.heap.size w (w.alloc (.cells #[.int .i64 k, .string key, .string val, .int .i64 n, .slice p m cap] 25))) := hB
  have hA1 := hA.below hB (Nat.le_refl _)
  have hAb : Hid (∀ w1, Below w.heap.size w w1 → TabA w1) := fun w1 hb => hA.below hb (Nat.le_refl _)
  have hlk := label_any key _ hA1.2
  have hlv := fun w1 h => label_any val w1 h
  have ham := Amount_zero key _ hA1.1
  unfold fmB
  generalize lbB key.data.toList = q1 at *
  generalize lbB val.data.toList = q2 at *
  generalize amB key.data.toList = q3 at *
  generalize amV nz key.data.toList = q4 at *
  clear hA hA1 hB
  rcases (show k = 1 ∨ k = 2 ∨ k = 3 ∨ ¬ (k = 1) ∧ ¬ (k = 2) ∧ ¬ (k = 3) by omega) with rfl | rfl | rfl | ⟨n1, n2, n3⟩
  · rw [if_pos rfl]
    clear hlv ham
    go_enter Tryd.func84, Tryd.ntmps84
    go_wp2_with (first
      | (go_at_call 70; refine hlk.mono ?_; rintro e w3 ⟨rfl, hb3⟩; clear hlk)
      | go_in)
    go_ret
    exact ⟨rfl, hBH.out.trans (hb3.mono hBH.out.size)⟩
  · rw [if_neg (by decide), if_pos rfl]
    clear ham
    cases q1 with
    | false =>
      go_enter Tryd.func84, Tryd.ntmps84
      go_wp2_with (first
        | (go_at_call 70; refine hlk.mono ?_; rintro e w3 ⟨rfl, hb3⟩; clear hlk)
        | go_in)
      go_ret
      exact ⟨by first | rfl | simp, hBH.out.trans (hb3.mono hBH.out.size)⟩
    | true =>
      go_enter Tryd.func84, Tryd.ntmps84
      go_wp2_with (first
        | (go_at_call 70; refine hlk.mono ?_; rintro e w3 ⟨rfl, hb3⟩; clear hlk; have hB3 : Below w.heap.size w w3 := hBH.out.trans (hb3.mono hBH.out.size); have z2 := (box5 ((hb3.block w.heap.size (by simp)).trans h1)).2.2.1)
        | (go_at_call 70; refine (hlv _ (hAb.out _ hB3).2).mono ?_; rintro e w4 ⟨rfl, hb4⟩; clear hlv)
        | go_in)
      go_ret
      exact ⟨by first | rfl | simp, hB3.trans (hb4.mono hB3.size)⟩
  · rw [if_neg (by decide), if_neg (by decide), if_pos rfl]
    clear hlv hlk
    go_enter Tryd.func84, Tryd.ntmps84
    go_wp2_with (first
      | (go_at_call 75; refine ham.mono ?_; rintro e w3 ⟨rfl, hb3⟩; clear ham)
      | go_in)
    go_ret
    exact ⟨rfl, hBH.out.trans (hb3.mono hBH.out.size)⟩
  · rw [if_neg n1, if_neg n2, if_neg n3]
    have m1 : (k == 1) = false := by simpa using n1
    have m2 : (k == 2) = false := by simpa using n2
    have m3 : (k == 3) = false := by simpa using n3
    clear n1 n2 n3 hlv hlk ham
    go_enter Tryd.func84, Tryd.ntmps84
    go_wp2
    go_ret
    exact ⟨rfl, hBH.out⟩

set_option maxHeartbeats 2000000 in
set_option maxRecDepth 100000 in
theorem alone_any (k : Int) (key val : ByteArray) (n : Int) (p : Option Addr) (m cap : Nat) (w : World) (hA : TabA w) : Calls Tryd.prog 67 #[.agg #[.int .i64 k, .string key, .string val, .int .i64 n, .slice p m cap]] w fun e w' => e = .returned (.int .i64 (chE k key val n m)) ∧ Below w.heap.size w w' := by
  have h1 : (w.alloc (.cells #[.int .i64 k, .string key, .string val, .int .i64 n, .slice p m cap] 25)).heap[w.heap.size]? = some (.cells #[.int .i64 k, .string key, .string val, .int .i64 n, .slice p m cap] 25 (0, 0)) := heap_alloc_new _ _
  have hB : Below w.heap.size w (w.alloc (.cells #[.int .i64 k, .string key, .string val, .int .i64 n, .slice p m cap] 25)) := (Below.refl _ _).alloc (Nat.le_refl _) _
  have hBH : Hid (Below w.heap.size w (w.alloc (.cells #[.int .i64 k, .string key, .string val, .int .i64 n, .slice p m cap] 25))) := hB
  have hAb : Hid (∀ w1, Below w.heap.size w w1 → TabA w1) := fun w1 hb => hA.below hb (Nat.le_refl _)
  have hwi := fun w1 => within_any k w1
  have hot := fun w1 => other_any k key val n p m cap w1
  have hfo := fun w1 h => formed_any k key val n p m cap w1 h
  unfold chE
  generalize knK k = q1 at *
  generalize inK k = c at *
  generalize hoB k key val n m = q3 at *
  generalize fmB k key val = q4 at *
  clear hA hB
  cases q1 with
  | false =>
    simp only [Bool.not_false, Bool.true_or, if_true]
    clear hot hfo
    go_enter Tryd.func67, Tryd.ntmps67
    go_wp2_with (first
      | (go_at_call 82; refine (hwi _).mono ?_; rintro e w2 ⟨rfl, hw2⟩; have hw3 := hw2.symm; subst hw3; clear hwi)
      | go_in)
    go_ret
    exact ⟨rfl, hBH.out⟩
  | true =>
    cases hq2 : ((m : Int) != c) with
    | true =>
      simp only [Bool.not_true, Bool.true_or, Bool.or_true, if_true]
      clear hot hfo
      go_enter Tryd.func67, Tryd.ntmps67
      go_wp2_with (first
        | (go_at_call 82; refine (hwi _).mono ?_; rintro e w2 ⟨rfl, hw2⟩; have hw3 := hw2.symm; subst hw3; clear hwi)
        | go_in)
      go_ret
      exact ⟨rfl, hBH.out⟩
    | false =>
      cases q3 with
      | true =>
        simp only [Bool.not_true, Bool.or_true, if_true]
        clear hfo
        go_enter Tryd.func67, Tryd.ntmps67
        go_wp2_with (first
          | (go_at_call 82; refine (hwi _).mono ?_; rintro e w2 ⟨rfl, hw2⟩; have hw3 := hw2.symm; subst hw3; clear hwi)
          | (go_at_call 83; refine (hot _).mono ?_; rintro e w3 ⟨rfl, hb3⟩; clear hot)
          | go_in)
        go_ret
        exact ⟨rfl, hBH.out.trans (hb3.mono hBH.out.size)⟩
      | false =>
        rw [if_neg (by decide)]
        cases q4 with
        | false =>
          rw [if_pos rfl]
          go_enter Tryd.func67, Tryd.ntmps67
          go_wp2_with (first
            | (go_at_call 82; refine (hwi _).mono ?_; rintro e w2 ⟨rfl, hw2⟩; have hw3 := hw2.symm; subst hw3; clear hwi)
            | (go_at_call 83; refine (hot _).mono ?_; rintro e w3 ⟨rfl, hb3⟩; clear hot; have hB3 : Below w.heap.size w w3 := hBH.out.trans (hb3.mono hBH.out.size); obtain ⟨z0, z1, z2, z3, z4⟩ := box5 ((hb3.block w.heap.size (by simp)).trans h1))
            | (go_at_call 84; refine (hfo _ (hAb.out _ hB3)).mono ?_; rintro e w4 ⟨rfl, hb4⟩; clear hfo)
            | go_in)
          go_ret
          exact ⟨rfl, hB3.trans (hb4.mono hB3.size)⟩
        | true =>
          rw [if_neg (by decide)]
          rcases (show n < 0 ∨ (¬ n < 0 ∧ 1099511627776 < n) ∨ (¬ n < 0 ∧ ¬ 1099511627776 < n) by omega) with hn | ⟨hn, hn2⟩ | ⟨hn, hn2⟩
          · rw [if_pos hn]
            go_enter Tryd.func67, Tryd.ntmps67
            go_wp2_with (first
              | (go_at_call 82; refine (hwi _).mono ?_; rintro e w2 ⟨rfl, hw2⟩; have hw3 := hw2.symm; subst hw3; clear hwi)
              | (go_at_call 83; refine (hot _).mono ?_; rintro e w3 ⟨rfl, hb3⟩; clear hot; have hB3 : Below w.heap.size w w3 := hBH.out.trans (hb3.mono hBH.out.size); have h2 := (hb3.block w.heap.size (by simp)).trans h1; obtain ⟨z0, z1, z2, z3, z4⟩ := box5 h2)
              | (go_at_call 84; refine (hfo _ (hAb.out _ hB3)).mono ?_; rintro e w4 ⟨rfl, hb4⟩; clear hfo; obtain ⟨y0, y1, y2, y3, y4⟩ := box5 ((hb4.block w.heap.size (Array.getElem?_eq_some_iff.1 h2).1).trans h2))
              | go_in)
            go_ret
            exact ⟨rfl, hB3.trans (hb4.mono hB3.size)⟩
          · rw [if_neg hn, if_pos hn2]
            go_enter Tryd.func67, Tryd.ntmps67
            go_wp2_with (first
              | (go_at_call 82; refine (hwi _).mono ?_; rintro e w2 ⟨rfl, hw2⟩; have hw3 := hw2.symm; subst hw3; clear hwi)
              | (go_at_call 83; refine (hot _).mono ?_; rintro e w3 ⟨rfl, hb3⟩; clear hot; have hB3 : Below w.heap.size w w3 := hBH.out.trans (hb3.mono hBH.out.size); have h2 := (hb3.block w.heap.size (by simp)).trans h1; obtain ⟨z0, z1, z2, z3, z4⟩ := box5 h2)
              | (go_at_call 84; refine (hfo _ (hAb.out _ hB3)).mono ?_; rintro e w4 ⟨rfl, hb4⟩; clear hfo; obtain ⟨y0, y1, y2, y3, y4⟩ := box5 ((hb4.block w.heap.size (Array.getElem?_eq_some_iff.1 h2).1).trans h2))
              | go_in)
            go_ret
            exact ⟨rfl, hB3.trans (hb4.mono hB3.size)⟩
          · rw [if_neg hn, if_neg hn2]
            go_enter Tryd.func67, Tryd.ntmps67
            go_wp2_with (first
              | (go_at_call 82; refine (hwi _).mono ?_; rintro e w2 ⟨rfl, hw2⟩; have hw3 := hw2.symm; subst hw3; clear hwi)
              | (go_at_call 83; refine (hot _).mono ?_; rintro e w3 ⟨rfl, hb3⟩; clear hot; have hB3 : Below w.heap.size w w3 := hBH.out.trans (hb3.mono hBH.out.size); have h2 := (hb3.block w.heap.size (by simp)).trans h1; obtain ⟨z0, z1, z2, z3, z4⟩ := box5 h2)
              | (go_at_call 84; refine (hfo _ (hAb.out _ hB3)).mono ?_; rintro e w4 ⟨rfl, hb4⟩; clear hfo; obtain ⟨y0, y1, y2, y3, y4⟩ := box5 ((hb4.block w.heap.size (Array.getElem?_eq_some_iff.1 h2).1).trans h2))
              | go_in)
            go_ret
            exact ⟨rfl, hB3.trans (hb4.mono hB3.size)⟩
end Go.Proofs.YtelepamnlpebgabDoor
