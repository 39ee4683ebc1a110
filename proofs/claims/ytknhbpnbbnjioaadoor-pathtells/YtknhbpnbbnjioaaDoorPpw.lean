/- PathWay, walked. -/
import Derived.Test.YtknhbpnbbnjioaaDoorPwy
import Derived.Test.YtknhbpnbbnjioaaDoorGte
import Derived.Test.YtknhbpnbbnjioaaDoorGtm
namespace Go.Proofs.YtknhbpnbbnjioaaDoor
open Go.RowKit Gm Pm
set_option linter.unusedSectionVars false
set_option linter.unusedVariables false

set_option maxHeartbeats 1000000 in
set_option maxRecDepth 100000 in
theorem Critical_bad {n : Int} {w : World} {q pd : Option Addr} {l : List Ed} {d : List Int} {cap cd : Nat} (h : Eds w q l) (hZ : TabZ w) (hd : Nums w pd d) (hne : pe n l d ≠ 0) :
    Calls Tryd.prog 5 #[.int .i64 n, .slice q l.length cap, .slice pd d.length cd] w fun e w' => e = .returned (.tuple #[.slice none 0 0, .int .i64 (pe n l d)]) ∧ Below w.heap.size w w' := by
  have hti := times_bad (cap := cap) (cd := cd) h hZ hd hne
  have hc1 : (pe n l d != 0) = true := by simpa using hne
  generalize pe n l d = y at *
  clear h hZ hd hne
  go_enter Tryd.func5, Tryd.ntmps5
  go_wp2_with (first
    | (go_at_call 4; refine hti.mono ?_; rintro e w2 ⟨rfl, hb2⟩; clear hti; obtain ⟨hbz, hz⟩ := plan_box w2 #[.slice none 0 0, .slice none 0 0, .int .i64 0])
    | (refine wpList_store_row rfl 25 _ _ rfl _ #[.slice none 0 0, .slice none 0 0, .int .i64 0] rfl rfl _ _ (heap_alloc_new w2 _) (plan_info _ rfl) rfl (plan_one _ _ _ _ _ _ _) ?_; generalize World.setRow (w2.alloc (.cells #[.slice none 0 0, .slice none 0 0, .int .i64 0] 25)) w2.heap.size #[.slice none 0 0, .slice none 0 0, .int .i64 0] = wz at *)
    | go_in)
  go_ret2
  exact ⟨rfl, hb2.trans (hbz.mono hb2.size)⟩

set_option maxHeartbeats 1000000 in
set_option maxRecDepth 100000 in
theorem Way_bad {n : Int} {w : World} {q pd : Option Addr} {l : List Ed} {d : List Int} {cap cd : Nat} (h : Eds w q l) (hZ : TabZ w) (hd : Nums w pd d) (hne : pe n l d ≠ 0) :
    Calls Tryd.prog 6 #[.int .i64 n, .slice q l.length cap, .slice pd d.length cd] w fun e w' => e = .returned (.tuple #[.slice none 0 0, .int .i64 (pe n l d)]) ∧ Below w.heap.size w w' := by
  have hti := times_bad (cap := cap) (cd := cd) h hZ hd hne
  have hc1 : (pe n l d != 0) = true := by simpa using hne
  generalize pe n l d = y at *
  clear h hZ hd hne
  go_enter Tryd.func6, Tryd.ntmps6
  go_wp2_with (first
    | (go_at_call 4; refine hti.mono ?_; rintro e w2 ⟨rfl, hb2⟩; clear hti; obtain ⟨hbz, hz⟩ := plan_box w2 #[.slice none 0 0, .slice none 0 0, .int .i64 0])
    | (refine wpList_store_row rfl 25 _ _ rfl _ #[.slice none 0 0, .slice none 0 0, .int .i64 0] rfl rfl _ _ (heap_alloc_new w2 _) (plan_info _ rfl) rfl (plan_one _ _ _ _ _ _ _) ?_; generalize World.setRow (w2.alloc (.cells #[.slice none 0 0, .slice none 0 0, .int .i64 0] 25)) w2.heap.size #[.slice none 0 0, .slice none 0 0, .int .i64 0] = wz at *)
    | go_in)
  go_ret2
  exact ⟨rfl, hb2.trans (hbz.mono hb2.size)⟩

theorem bn_left {A B : List Nat} {k : Nat} (h : k < A.length) : bn (A ++ B) k = bn A k := by
  unfold bn
  rw [List.getD_eq_getElem?_getD, List.getD_eq_getElem?_getD, List.getElem?_append_left h]
theorem bn_end (A : List Nat) (x : Nat) : bn (A ++ [x]) A.length = x := by simp [bn]
theorem Wy.idx {l : List Ed} {D E L : Nat → Int} {n : Nat} {S : Int} {W : List Nat} (h : Wy l D E L n S W) : (0 < W.length → E (bn W 0) = 0) ∧ ∀ k, k + 1 < W.length → eB l (bn W k) (bn W (k + 1)) = true ∧ E (bn W (k + 1)) = E (bn W k) + D (bn W k) := by
  induction h with
  | nil => exact ⟨fun h => by simp at h, fun k hk => by simp at hk⟩
  | first _ h2 _ _ => exact ⟨fun _ => h2, fun k hk => by simp at hk⟩
  | @snoc R i j _ _ hij hE _ _ ih =>
    refine ⟨fun _ => ?_, fun k hk => ?_⟩
    · rw [bn_left (by simp)]; exact ih.1 (by simp)
    · by_cases e : k + 1 < (R ++ [i]).length
      · rw [bn_left (by omega), bn_left e]; exact ih.2 k e
      · have hk2 : k = R.length := by simp at hk e; omega
        subst hk2
        have e1 : bn (R ++ [i] ++ [j]) R.length = i := by rw [bn_left (by simp), bn_end]
        have e2 : bn (R ++ [i] ++ [j]) (R.length + 1) = j := by
          have := bn_end (R ++ [i]) j
          simpa using this
        rw [e1, e2]
        exact ⟨hij, hE⟩
/-- How long the first k of a way take. -/
def smW (E : Nat → Int) (S : Int) (W : List Nat) (k : Nat) : Int := if k < W.length then E (bn W k) else S
theorem WyD.sums {l : List Ed} {D E L : Nat → Int} {n : Nat} {S : Int} {W : List Nat} (hP : Pln l D n E L S) (h : WyD l D E L n S W) : smW E S W 0 = 0 ∧ smW E S W W.length = S ∧ ∀ k, k < W.length → smW E S W k = E (bn W k) ∧ smW E S W (k + 1) = E (bn W k) + D (bn W k) := by
  obtain ⟨h1, h2⟩ := h.way.idx
  refine ⟨?_, by simp [smW], fun k hk => ⟨by rw [smW, if_pos hk], ?_⟩⟩
  · unfold smW
    split
    · rename_i hl; exact h1 hl
    · rename_i hl
      have h0 : W = [] := List.length_eq_zero_iff.1 (by omega)
      have hn := h.zero.1 h0
      rcases hP.s.why with e | ⟨i, hi, _⟩
      · exact e
      · omega
  · unfold smW
    split
    · rename_i hl; exact (h2 k hl).2
    · rename_i hl
      have hk1 : k + 1 = W.length := by omega
      rcases List.eq_nil_or_concat W with rfl | ⟨R, i, rfl⟩
      · simp at hk
      · have : k = R.length := by simp at hk1; omega
        subst this
        simp only [List.concat_eq_append] at *
        rw [bn_end]
        exact (h.last R i rfl).symm

end Go.Proofs.YtknhbpnbbnjioaaDoor
