/- What the laws of the queue share: that the queue is alive, slices.Equal at rows of items, rows that are sorted again. -/
import Derived.Test.YthkhlgannimebaaQso
namespace Go.Proofs.Ythkhlgannimebaa
open Go.RowKit Go.Maps Go.Sort Qum
set_option linter.unusedSectionVars false

theorem neqI (a i : Int) (w : World) : (binOp .neq 30 (.agg #[.int .i64 a, .int .i64 i]) (.agg #[.int .i64 a, .int .i64 i])).run Try.prog w = .ok (.bool false) w := by
  have u3 := Try.underlying3
  have a3 := Try.isAgg3
  have z3 := Try.sizeOf3
  have hS : Try.prog.underlying 30 = some (.struct (Try.prog.fieldsOf 30)) := by kernel_rfl
  have hp : Try.prog.stoodInHeld 30 = false := by kernel_rfl
  rw [run_neq_struct, show (10000 : Nat) = 9999 + 1 from rfl, run_equalIn_agg w 9999 30 _ _ hS hp]
  simp only [Program.fieldsOf, Try.underlying30]
  go_simp
theorem row_below {w w' : World} {B : Nat} {e : TypeId} {size : Nat} {v : Value} {n : Nat} {xs : List Value} (h : w.ownsRow B e size v n xs) (hK : Below w.heap.size w w') : w'.ownsRow B e size v n xs :=
  h.kept (w' := w') (row := none) ⟨hK.os, hK.tape, hK.output, hK.size, fun k hk _ => hK.block k hk⟩ (by cases hv : v.ownBlock <;> simp)
theorem drewN_below {B : Nat} {w wz : World} (h : Below B w wz) (q : Nat) : Below B w (wz.drewN q) := ⟨h.os, h.tape, h.output, h.size, h.block⟩

set_option maxHeartbeats 1000000 in
set_option maxRecDepth 100000 in
theorem equal_any {w : World} {F : List Th} {p1 p2 : Option Addr} {c1 c2 B1 B2 : Nat} (h1 : w.ownsRow B1 30 2 (.slice p1 F.length c1) F.length (flatI F)) (h2 : w.ownsRow B2 30 2 (.slice p2 F.length c2) F.length (flatI F)) (hlen : F.length ≤ 1000) :
    Calls Try.prog 11 #[.slice p1 F.length c1, .slice p2 F.length c2] w fun e w' => e = .returned (.bool true) ∧ Below w.heap.size w w' := by
  have hlen' : Hid (F.length ≤ 1000) := hlen
  have hnf := neqI
  clear hlen
  go_enter Try.func11, Try.ntmps11
  go_wp2
  go_loopw [13] (fun iv wr => ∃ j : Nat, iv = .int .i64 j ∧ j ≤ F.length ∧ Below w.heap.size w wr)
    (fun iv _ => F.length - (intOf iv).toNat)
  case atStart => exact ⟨0, rfl, Nat.zero_le _, Below.refl _ _⟩
  case round =>
    obtain ⟨j, rfl, hjl, hbl⟩ := hrel
    have r1 := row_below h1 hbl
    have r2 := row_below h2 hbl
    by_cases hj : j < F.length
    · rcases r1.2 with ⟨_, h0⟩ | ⟨g, cap', cur, hv, hrest⟩
      · omega
      obtain ⟨rfl, rfl⟩ : p1 = some ⟨g, 0, none⟩ ∧ c1 = cap' := by simpa using hv
      rcases r2.2 with ⟨_, h0⟩ | ⟨g2, cap2, cur2, hv2, hrest2⟩
      · omega
      obtain ⟨rfl, rfl⟩ : p2 = some ⟨g2, 0, none⟩ ∧ c2 = cap2 := by simpa using hv2
      clear hrest hv hrest2 hv2
      obtain ⟨e0, e1⟩ := flatI_get hj
      have z0 : wr.cell? ⟨g, j * 2, none⟩ = some (.int .i64 (th F j).p) := (r1.cellAt (j * 2) (by omega)).trans e0
      have z1 : wr.cell? ⟨g, j * 2 + 1, none⟩ = some (.int .i64 (th F j).i) := (r1.cellAt (j * 2 + 1) (by omega)).trans e1
      have y0 : wr.cell? ⟨g2, j * 2, none⟩ = some (.int .i64 (th F j).p) := (r2.cellAt (j * 2) (by omega)).trans e0
      have y1 : wr.cell? ⟨g2, j * 2 + 1, none⟩ = some (.int .i64 (th F j).i) := (r2.cellAt (j * 2 + 1) (by omega)).trans e1
      clear e0 e1 r1 r2 h1 h2
      generalize th F j = x at *
      have hji : (j : Int) < (F.length : Int) := by omega
      go_wp2
      go_quiet (fail)
      go_wp2
      have hj2 : j ≤ 100000 := Nat.le_trans hjl (Nat.le_trans hlen'.out (by decide))
      refine ⟨⟨j + 1, ?_, hj, drewN_below hbl nq⟩, ?_⟩
      · first | exact int_wsucc hj2 | exact int_succ j
      · first | exact meas_w hj hj2 | exact meas_1 hj
    · have hji : ¬ (j : Int) < (F.length : Int) := by omega
      clear r1 r2 h1 h2
      go_wp2
      go_ret
      exact ⟨rfl, hbl⟩

/-- A row as items: a thing's turn is its place. -/
def ret (L : List Th) : List Th := (List.range L.length).map fun k => ⟨(th L k).p, (th L k).i, k⟩
theorem ret_len (L : List Th) : (ret L).length = L.length := by simp [ret]
theorem th_ret {L : List Th} {k : Nat} (hk : k < L.length) : th (ret L) k = ⟨(th L k).p, (th L k).i, k⟩ := by
  rw [th_get (by rw [ret_len]; exact hk)]
  simp [ret]
theorem flatI_ret (L : List Th) : flatI (ret L) = flatI L := by
  apply List.ext_getElem?
  intro j
  by_cases hj : j < L.length * 2
  · have h1 : j / 2 < L.length := by omega
    have a := flatI_get (l := ret L) (j := j / 2) (by rw [ret_len]; exact h1)
    have b := flatI_get h1
    rw [th_ret h1] at a
    rcases (show j % 2 = 0 ∨ j % 2 = 1 by omega) with e | e
    · rw [show j = j / 2 * 2 by omega, a.1, b.1]
    · rw [show j = j / 2 * 2 + 1 by omega, a.2, b.2]
  · rw [List.getElem?_eq_none (by rw [flatI_len, ret_len]; omega), List.getElem?_eq_none (by rw [flatI_len]; omega)]
theorem th_ext {L M : List Th} (hl : L.length = M.length) (h : ∀ k, k < L.length → th L k = th M k) : L = M := by
  apply List.ext_getElem hl
  intro k h1 h2
  have := h k h1
  rwa [th_get h1, th_get h2] at this
theorem uniq_ret {L : List Th} (h : uniq L) : uniq (ret L) := by
  unfold uniq at *
  rw [List.pairwise_iff_getElem] at *
  intro a b ha hb hab
  have ha' : a < L.length := by rw [ret_len] at ha; exact ha
  have hb' : b < L.length := by rw [ret_len] at hb; exact hb
  rw [← th_get ha, ← th_get hb, th_ret ha', th_ret hb']
  have := h a b ha' hb' hab
  rw [← th_get ha', ← th_get hb'] at this
  exact this
theorem srt_ret (l : List Th) : srt (ret (srt l)) = ret (srt l) := by
  have hs := srt_sorted l
  refine (srt_unique (.refl _) ?_ ?_).symm
  · rw [List.pairwise_iff_getElem] at *
    intro a b ha hb hab
    have ha' : a < (srt l).length := by rw [ret_len] at ha; exact ha
    have hb' : b < (srt l).length := by rw [ret_len] at hb; exact hb
    rw [← th_get ha, ← th_get hb, th_ret ha', th_ret hb']
    have := hs a b ha' hb' hab
    rw [← th_get ha', ← th_get hb'] at this
    simp [ltQ] at this ⊢
    omega
  · rw [List.pairwise_iff_getElem]
    intro a b ha hb hab
    have ha' : a < (srt l).length := by rw [ret_len] at ha; exact ha
    have hb' : b < (srt l).length := by rw [ret_len] at hb; exact hb
    rw [← th_get ha, ← th_get hb, th_ret ha', th_ret hb']
    simp
    omega
theorem its_wf {w : World} {q : Option Addr} {l : List Th} (h : Its w q l) : ∀ x ∈ l, (Lit.int .i64 x.i).wf = true := by
  intro x hx
  obtain ⟨k, hk, rfl⟩ := List.getElem_of_mem hx
  rcases h.2 with h0 | ⟨b, o, _, hA⟩
  · omega
  · have := hA.wi k hk
    rwa [th_get hk] at this
theorem its_ret {w : World} {B : Nat} {p : Option Addr} {cap : Nat} {L : List Th} (h : w.ownsRow B 30 2 (.slice p L.length cap) L.length (flatI L)) (hw : ∀ x ∈ L, (Lit.int .i64 x.i).wf = true) : Its w p (ret L) := by
  refine ⟨fun j hj => by rw [ret_len] at hj; rw [th_ret hj], ?_⟩
  rcases h.2 with ⟨_, h0⟩ | ⟨g, cap', cur, hv, _, hg, _⟩
  · left; rw [ret_len, h0]
  · obtain ⟨rfl, rfl⟩ : p = some ⟨g, 0, none⟩ ∧ cap = cap' := by simpa using hv
    refine Or.inr ⟨g, 0, rfl, (Array.getElem?_eq_some_iff.1 hg).1, ?_, ?_, ?_⟩
    · intro j hj
      rw [ret_len] at hj
      rw [th_ret hj, Nat.zero_add, h.cellAt (j * 2) (by omega)]
      exact (flatI_get hj).1
    · intro j hj
      rw [ret_len] at hj
      rw [th_ret hj, Nat.zero_add, h.cellAt (j * 2 + 1) (by omega)]
      exact (flatI_get hj).2
    · intro j hj
      rw [ret_len] at hj
      rw [th_ret hj]
      exact hw (th L j) (th_mem hj)
theorem uniq_srt {l : List Th} (h : uniq l) : uniq (srt l) := ((srt_perm l).pairwise_iff (R := fun x y : Th => x.i ≠ y.i) (fun hne e => hne e.symm)).2 h

/-- The two items with which the queue is tried. -/
def two : List Th := [⟨1, 1, 0⟩, ⟨2, 2, 1⟩]
theorem srt_two : srt two = [⟨2, 2, 1⟩, ⟨1, 1, 0⟩] := by
  refine (srt_unique (l' := [⟨2, 2, 1⟩, ⟨1, 1, 0⟩]) (List.Perm.swap _ _ _) ?_ ?_).symm
  · simp [ltQ]
  · simp

set_option maxRecDepth 100000 in
theorem queues_any (w : World) : Calls Try.prog 13 #[] w fun e w' => e = .returned (.bool true) ∧ Below w.heap.size w w' := by
  have hb := heap_alloc_new w (.cells #[.int .i64 1, .int .i64 1, .int .i64 2, .int .i64 2] 30)
  have hI : Its (w.alloc (.cells #[.int .i64 1, .int .i64 1, .int .i64 2, .int .i64 2] 30)) (some ⟨w.heap.size, 0, none⟩) two := by
    refine ⟨fun j hj => ?_, Or.inr ⟨_, _, rfl, by simp, fun j hj => ?_, fun j hj => ?_, fun j hj => ?_⟩⟩
    all_goals
      have hj' : j < 2 := hj
      rcases (show j = 0 ∨ j = 1 by omega) with rfl | rfl
    · rfl
    · rfl
    · exact (cell_of_row _ _ _ _ _ _ hb).trans rfl
    · exact (cell_of_row _ _ _ _ _ _ hb).trans rfl
    · exact (cell_of_row _ _ _ _ _ _ hb).trans rfl
    · exact (cell_of_row _ _ _ _ _ _ hb).trans rfl
    · decide
    · decide
  have hsort := sort_uniq (cap := 2) hI (by decide) (by simp [uniq, two])
  rw [srt_two] at hsort
  have hba : Hid (Below w.heap.size w (w.alloc (.cells #[.int .i64 1, .int .i64 1, .int .i64 2, .int .i64 2] 30))) := (Below.refl _ _).alloc (Nat.le_refl _) _
  have hsz : Hid (w.heap.size ≤ (w.alloc (.cells #[.int .i64 1, .int .i64 1, .int .i64 2, .int .i64 2] 30)).heap.size) := by show _ ≤ _; simp
  have hsort2 : Calls Try.prog 9 #[.slice (some ⟨w.heap.size, 0, none⟩) 2 2] (w.alloc (.cells #[.int .i64 1, .int .i64 1, .int .i64 2, .int .i64 2] 30)) fun e w' => ∃ (g : Nat) (cap' : Nat), e = .returned (.tuple #[.slice (some ⟨g, 0, none⟩) 2 cap', .int .i64 0]) ∧ w'.cell? ⟨g, 1, none⟩ = some (.int .i64 2) ∧ Below w.heap.size w w' := by
    refine hsort.mono fun e w' ⟨p, cap', he, hr, hbl⟩ => ?_
    rcases hr.2 with ⟨_, h0⟩ | ⟨g, c, cur, hv, hrest⟩
    · cases h0
    · obtain ⟨rfl, rfl⟩ : p = some ⟨g, 0, none⟩ ∧ cap' = c := by simpa using hv
      refine ⟨g, cap', he, (hr.cellAt 1 (by decide)).trans rfl, hba.out.trans (hbl.mono hsz.out)⟩
  clear hsort hI hb hba hsz
  go_enter Try.func13, Try.ntmps13
  go_wp2_with (first
    | (go_at_call 9; refine hsort2.mono ?_; rintro e w1 ⟨g, c, rfl, hc, hb1⟩; clear hsort2)
    | go_in)
  go_ret
  exact ⟨rfl, hb1⟩
end Go.Proofs.Ythkhlgannimebaa
