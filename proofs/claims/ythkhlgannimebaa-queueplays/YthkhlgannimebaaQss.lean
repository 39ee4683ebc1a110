/- QueueSorts, walked. -/
import Derived.Test.YthkhlgannimebaaQr5
namespace Go.Proofs.Ythkhlgannimebaa
open Go.RowKit Go.Maps Go.Sort Qum
set_option linter.unusedSectionVars false

theorem Its.below {w w1 : World} {q : Option Addr} {l : List Th} (h : Its w q l) {B : Nat} (hb : Below B w w1) (hB : w.heap.size ≤ B) : Its w1 q l := ⟨h.1, by
    rcases h.2 with h0 | ⟨b, o, e, hA⟩
    · exact Or.inl h0
    · exact Or.inr ⟨b, o, e, hA.below hb (Nat.lt_of_lt_of_le hA.lt hB)⟩⟩

/-- A new queue of the reference's. -/
theorem Rq_new (w : World) : Rq w.heap.size (w.alloc (.cells #[.slice none 0 0] 28)) w.heap.size [] :=
  ⟨none, 0, ⟨heap_alloc_new w _, Rrow_nil _⟩, Nat.le_refl _, fun k hk => by simp [Value.ownBlock] at hk⟩

set_option maxHeartbeats 1000000 in
set_option maxRecDepth 100000 in
theorem queueSorts_walk (w : World) (q : Option Addr) (l : List Th) (cap : Nat) (h : Its w q l) :
    Calls Try.prog 3 #[.slice q l.length cap] w fun e w' => e = .returned (.bool true) ∧ Below w.heap.size w w' := by
  by_cases h200 : 200 < l.length
  · have h2i : (200 : Int) < (l.length : Int) := by omega
    go_enter Try.func3, Try.ntmps3
    go_wp2_with (first
      | (go_at_call 9; refine (sort_large _ _ _ _ h200).mono ?_; rintro e w2 ⟨rfl, hb2⟩)
      | go_in)
    go_ret
    exact ⟨rfl, hb2⟩
  have hl : l.length ≤ 200 := by omega
  have hlH : Hid (l.length ≤ 200) := hl
  have h2i : (l.length : Int) ≤ 200 := by omega
  by_cases hu : uniq l
  · have hs := sort_uniq (cap := cap) h hl hu
    have hu' : Hid (uniq l) := hu
    have ht' : Hid (∀ j, j < l.length → (th l j).t = j) := h.1
    clear hu h200 hl
    go_enter Try.func3, Try.ntmps3
    go_wp2_with (first
      | (go_at_call 9; refine hs.mono ?_; rintro e w2 ⟨p2, c2, rfl, hr2, hb2⟩; clear hs)
      | go_in)
    have hI := h.below hb2 (Nat.le_refl _)
    have hRn := Rq_new w2
    have hbn : Below w2.heap.size w2 (w2.alloc (.cells #[.slice none 0 0] 28)) := (Below.refl _ _).alloc (Nat.le_refl _) _
    generalize w2.alloc (.cells #[.slice none 0 0] 28) = wm at *
    go_loopw [27] (fun iv wr => ∃ j : Nat, iv = .int .i64 j ∧ j ≤ l.length ∧ Rq w2.heap.size wr w2.heap.size (l.take j) ∧ Below w2.heap.size w2 wr)
      (fun iv _ => l.length - (intOf iv).toNat)
    case atStart => exact ⟨0, rfl, Nat.zero_le _, by simpa using hRn, hbn⟩
    case round =>
      clear hRn hbn
      obtain ⟨j, rfl, hjl, hQ, hbl⟩ := hrel
      have hut : uniq (l.take j) := List.Pairwise.sublist (List.take_sublist j l) hu'.out
      have hO := ok_take ht'.out hjl hlH.out hut
      by_cases hj : j < l.length
      · rcases hI.2 with h0 | ⟨b, o, rfl, hA⟩
        · omega
        have hAr := hA.below hbl hA.lt
        have z0 := hAr.cp j hj
        have z1 := hAr.ci j hj
        have hji : (j : Int) < (l.length : Int) := by omega
        have hj2 : Hid (j ≤ 100000) := by have := hlH.out; show _ ≤ _; omega
        have hno := uniq_no hu'.out hj
        have hput := rput_any (S := ⟨j, l.take j⟩) (pr := (th l j).p) (id := (th l j).i) (hQ.below ((Below.refl wr.heap.size wr).alloc (Nat.le_refl _) (.cells #[.int .i64 (th l j).p, .int .i64 (th l j).i] 30))) hO
        rw [(put_step ht'.out hj hlH.out hno).1, (put_step ht'.out hj hlH.out hno).2] at hput
        have hbq : Hid (Below w2.heap.size w2 (wr.alloc (.cells #[.int .i64 (th l j).p, .int .i64 (th l j).i] 30))) := hbl.alloc hbl.size _
        generalize th l j = x at *
        clear hA hAr hQ hbl hno hut hO hI h hr2
        go_wp2_with (first
          | (go_at_call 10; refine hput.mono ?_; rintro e w3 ⟨rfl, hQ3, hF3⟩; clear hput)
          | go_in)
        refine ⟨⟨j + 1, ?_, hj, hQ3, hbq.out.trans hF3.below⟩, ?_⟩
        · first | exact int_succ j | exact int_wsucc hj2.out
        · first | exact meas_1 hj | exact meas_w hj hj2.out
      · have hji : ¬ (j : Int) < (l.length : Int) := by omega
        have e : j = l.length := by omega
        subst e
        rw [List.take_length] at hQ hO
        have hrow := rrow_any hQ hO
        have hr2' := row_below hr2 hbl
        have heq : Hid (∀ w4 p4 c4, Below wr.heap.size wr w4 → Rrow w4 (.slice p4 l.length c4) l.length (flatI (srt l)) → Calls Try.prog 11 #[.slice p2 l.length c2, .slice p4 l.length c4] w4 fun e w' => e = .returned (.bool true) ∧ Below w4.heap.size w4 w') := fun w4 p4 c4 hb4 hr4 =>
          equal_rr (srt_len l) (Rrow_of_owns (row_below hr2' hb4)) hr4 (by have := hlH.out; omega)
        clear hr2 hr2' hQ hO hut hI h
        go_wp2_with (first
          | (go_at_call 12; refine hrow.mono ?_; rintro e w4 ⟨p4, c4, rfl, hr4, hb4⟩; clear hrow)
          | (go_at_call 11; refine (heq.out w4 p4 c4 hb4 hr4).mono ?_; rintro e w5 ⟨rfl, hb5⟩)
          | go_in)
        go_ret
        have b4 : Below w2.heap.size w2 w4 := hbl.trans (hb4.mono hbl.size)
        have b5 : Below w2.heap.size w2 w5 := b4.trans (hb5.mono b4.size)
        exact ⟨rfl, hb2.trans (b5.mono hb2.size)⟩
  · have hs := sort_dup (cap := cap) h hl hu
    have hu' : Hid (¬ uniq l) := hu
    have ht' : Hid (∀ j, j < l.length → (th l j).t = j) := h.1
    clear hu h200 hl
    go_enter Try.func3, Try.ntmps3
    go_wp2_with (first
      | (go_at_call 9; refine hs.mono ?_; rintro e w2 ⟨rfl, hb2⟩; clear hs)
      | go_in)
    have hI := h.below hb2 (Nat.le_refl _)
    have hRn := Rq_new w2
    have hbn : Below w2.heap.size w2 (w2.alloc (.cells #[.slice none 0 0] 28)) := (Below.refl _ _).alloc (Nat.le_refl _) _
    generalize w2.alloc (.cells #[.slice none 0 0] 28) = wm at *
    go_loopw [27] (fun iv wr => ∃ j : Nat, iv = .int .i64 j ∧ j ≤ l.length ∧ Hid (uniq (l.take j)) ∧ Rq w2.heap.size wr w2.heap.size (l.take j) ∧ Below w2.heap.size w2 wr)
      (fun iv _ => l.length - (intOf iv).toNat)
    case atStart => exact ⟨0, rfl, Nat.zero_le _, by show uniq _; simp [uniq], by simpa using hRn, hbn⟩
    case round =>
      clear hRn hbn
      obtain ⟨j, rfl, hjl, hutH, hQ, hbl⟩ := hrel
      have hut := hutH.out
      have hO := ok_take ht'.out hjl hlH.out hut
      by_cases hj : j < l.length
      · rcases hI.2 with h0 | ⟨b, o, rfl, hA⟩
        · omega
        have hAr := hA.below hbl hA.lt
        have z0 := hAr.cp j hj
        have z1 := hAr.ci j hj
        have hji : (j : Int) < (l.length : Int) := by omega
        have hj2 : Hid (j ≤ 100000) := by have := hlH.out; show _ ≤ _; omega
        have hput := rput_any (S := ⟨j, l.take j⟩) (pr := (th l j).p) (id := (th l j).i) (hQ.below ((Below.refl wr.heap.size wr).alloc (Nat.le_refl _) (.cells #[.int .i64 (th l j).p, .int .i64 (th l j).i] 30))) hO
        have hbq : Hid (Below w2.heap.size w2 (wr.alloc (.cells #[.int .i64 (th l j).p, .int .i64 (th l j).i] 30))) := hbl.alloc hbl.size _
        cases hno : hasId (l.take j) (th l j).i
        · rw [(put_step ht'.out hj hlH.out hno).1, (put_step ht'.out hj hlH.out hno).2] at hput
          have hut1 : Hid (uniq (l.take (j + 1))) := uniq_snoc hj hut hno
          generalize th l j = x at *
          clear hA hAr hQ hbl hno hut hO hI h hutH
          go_wp2_with (first
            | (go_at_call 10; refine hput.mono ?_; rintro e w3 ⟨rfl, hQ3, hF3⟩; clear hput)
            | go_in)
          refine ⟨⟨j + 1, ?_, hj, hut1, hQ3, hbq.out.trans hF3.below⟩, ?_⟩
          · first | exact int_succ j | exact int_wsucc hj2.out
          · first | exact meas_1 hj | exact meas_w hj hj2.out
        · have e6 : putE ⟨j, l.take j⟩ (th l j).i = 6 := by simp [putE, hno]
          rw [e6] at hput
          generalize th l j = x at *
          clear hA hAr hQ hbl hno hut e6 hO hI h hutH
          go_wp2_with (first
            | (go_at_call 10; refine hput.mono ?_; rintro e w3 ⟨rfl, hQ3, hF3⟩; clear hput)
            | go_in)
          go_ret
          exact ⟨rfl, hb2.trans ((hbq.out.trans hF3.below).mono hb2.size)⟩
      · have e : j = l.length := by omega
        subst e
        rw [List.take_length] at hut
        exact absurd hut hu'.out
end Go.Proofs.Ythkhlgannimebaa
