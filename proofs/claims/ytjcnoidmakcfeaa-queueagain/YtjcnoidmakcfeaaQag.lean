/- QueueAgain, walked. -/
import Derived.Test.YtjcnoidmakcfeaaQla
namespace Go.Proofs.Ytjcnoidmakcfeaa
open Go.RowKit Go.Maps Go.Sort Qum
set_option linter.unusedSectionVars false

set_option maxHeartbeats 1000000 in
set_option maxRecDepth 100000 in
theorem queueAgain_walk (w : World) (q : Option Addr) (l : List Th) (cap : Nat) (h : Its w q l) :
    Calls Try.prog 6 #[.slice q l.length cap] w fun e w' => e = .returned (.bool true) ∧ Below w.heap.size w w' := by
  have hIw : ∀ w1, Below w.heap.size w w1 → Its w1 q l := fun w1 hb => ⟨h.1, by
    rcases h.2 with h0 | ⟨b, o, e, hA⟩
    · exact Or.inl h0
    · exact Or.inr ⟨b, o, e, hA.below hb hA.lt⟩⟩
  by_cases h200 : 200 < l.length
  · go_enter Try.func6, Try.ntmps6
    go_wp2_with (first
      | (go_at_call 13; refine (queues_any _).mono ?_; rintro e w1 ⟨rfl, hb1⟩)
      | (go_at_call 9; refine (sort_large _ _ _ _ h200).mono ?_; rintro e w2 ⟨rfl, hb2⟩)
      | go_in)
    go_ret
    exact ⟨rfl, hb1.trans (hb2.mono hb1.size)⟩
  by_cases hu : uniq l
  · have hlr : (ret (srt l)).length = l.length := by rw [ret_len, srt_len]
    have hwf : Hid (∀ x ∈ srt l, (Lit.int .i64 x.i).wf = true) := fun x hx => its_wf h x ((srt_perm l).mem_iff.1 hx)
    have hs2 : Hid (∀ w2 B p cap2, w2.ownsRow B 30 2 (.slice p l.length cap2) l.length (flatI (srt l)) → Calls Try.prog 9 #[.slice p l.length cap2] w2 fun e w' => ∃ (p3 : Option Addr) (cap3 : Nat), e = .returned (.tuple #[.slice p3 l.length cap3, .int .i64 0]) ∧ w'.ownsRow w2.heap.size 30 2 (.slice p3 l.length cap3) l.length (flatI (srt l)) ∧ Below w2.heap.size w2 w') := by
      intro w2 B p cap2 hr
      have hr' : w2.ownsRow B 30 2 (.slice p (srt l).length cap2) (srt l).length (flatI (srt l)) := by rw [srt_len]; exact hr
      have := sort_uniq (cap := cap2) (its_ret hr' hwf.out) (by rw [hlr]; omega) (uniq_ret (uniq_srt hu))
      rw [hlr, srt_ret, flatI_ret] at this
      exact this
    have heq : Hid (∀ w3 B1 B2 p1 p2 c1 c2, w3.ownsRow B1 30 2 (.slice p1 l.length c1) l.length (flatI (srt l)) → w3.ownsRow B2 30 2 (.slice p2 l.length c2) l.length (flatI (srt l)) → Calls Try.prog 11 #[.slice p1 l.length c1, .slice p2 l.length c2] w3 fun e w' => e = .returned (.bool true) ∧ Below w3.heap.size w3 w') := by
      intro w3 B1 B2 p1 p2 c1 c2 h1 h2
      have := equal_any (w := w3) (F := srt l) (p1 := p1) (p2 := p2) (c1 := c1) (c2 := c2) (B1 := B1) (B2 := B2) (by rw [srt_len]; exact h1) (by rw [srt_len]; exact h2) (by rw [srt_len]; omega)
      rw [srt_len] at this
      exact this
    have hsort : Hid (∀ w1, Below w.heap.size w w1 → _) := fun w1 hb => sort_uniq (cap := cap) (hIw w1 hb) (by omega) hu
    clear hIw h
    go_enter Try.func6, Try.ntmps6
    go_wp2_with (first
      | (go_at_call 13; refine (queues_any _).mono ?_; rintro e w1 ⟨rfl, hb1⟩)
      | (go_at_call 9; first
          | (refine (hsort.out w1 hb1).mono ?_; rintro e w2 ⟨p2, c2, rfl, hr2, hb2⟩; clear hsort)
          | (refine (hs2.out w2 _ p2 c2 hr2).mono ?_; rintro e w3 ⟨p3, c3, rfl, hr3, hb3⟩; have hr23 := row_below hr2 hb3))
      | (go_at_call 11; refine (heq.out w3 _ _ p2 p3 c2 c3 hr23 hr3).mono ?_; rintro e w4 ⟨rfl, hb4⟩)
      | go_in)
    go_ret
    have b2 : Below w.heap.size w w2 := hb1.trans (hb2.mono hb1.size)
    have b3 : Below w.heap.size w w3 := b2.trans (hb3.mono b2.size)
    exact ⟨rfl, b3.trans (hb4.mono b3.size)⟩
  · have hdup : Hid (∀ w1, Below w.heap.size w w1 → _) := fun w1 hb => sort_dup (cap := cap) (hIw w1 hb) (by omega) hu
    clear hIw h
    go_enter Try.func6, Try.ntmps6
    go_wp2_with (first
      | (go_at_call 13; refine (queues_any _).mono ?_; rintro e w1 ⟨rfl, hb1⟩)
      | (go_at_call 9; refine (hdup.out w1 hb1).mono ?_; rintro e w2 ⟨rfl, hb2⟩)
      | go_in)
    go_ret
    exact ⟨rfl, hb1.trans (hb2.mono hb1.size)⟩
end Go.Proofs.Ytjcnoidmakcfeaa
