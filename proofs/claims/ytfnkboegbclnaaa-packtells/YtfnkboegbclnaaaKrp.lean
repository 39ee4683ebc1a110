/- Mathematics of the reference's Packed: the first box that has room is first fit's. -/
import Derived.Test.YtfnkboegbclnaaaKre
namespace Go.Proofs.Ytfnkboegbclnaaa
open Go.RowKit
set_option linter.unusedSectionVars false
set_option linter.unusedVariables false

/-- The boxes of those that are in, -1 of the others. -/
def jin (P : List Nat) (s : Fs) (j : Nat) : Int := if j ∈ P then s.inn j else -1
theorem sb_erase (l : List Int) (I : Nat → Int) (b : Int) {i : Nat} {Q : List Nat} (h : i ∈ Q) : sb l I b Q = (if I i = b then nm l i else 0) + sb l I b (Q.erase i) := by
  have h1 := sb_perm (l := l) (I := I) (b := b) (List.perm_cons_erase h)
  rw [h1]
  simp only [sb]
theorem sb_sub {l : List Int} {I : Nat → Int} {b : Int} : ∀ {P Q : List Nat}, P.Nodup → (∀ x ∈ P, x ∈ Q) → Q.Nodup → (∀ x ∈ Q, x ∉ P → I x ≠ b) → sb l I b Q = sb l I b P := by
  intro P
  induction P with
  | nil => intro Q _ _ _ h; exact sb_none fun i hi => h i hi (by simp)
  | cons a P ih =>
    intro Q hn hs hq h
    rw [List.nodup_cons] at hn
    rw [sb_erase l I b (hs a (List.mem_cons_self ..)), ih hn.2 (fun x hx => (List.mem_erase_of_ne (fun e => hn.1 (by rw [← e]; exact hx))).2 (hs x (List.mem_cons_of_mem _ hx))) (hq.erase a) fun x hx hxP => ?_]
    · simp only [sb]
    · have h1 := hq.mem_erase_iff.1 hx
      exact h x h1.2 fun hm => by
        rcases List.mem_cons.1 hm with e | h2
        · exact h1.1 e
        · exact hxP h2
/-- The room of each box, by what is in. -/
theorem room_at {l : List Int} {size : Int} {P : List Nat} {s : Fs} {n b : Nat} (h : Inb l size P s) (hn : P.Nodup) (hlt : ∀ x ∈ P, x < n) : size - sb l (jin P s) (b : Int) (List.range n) = if b < s.m then s.rm b else size := by
  have e1 : sb l (jin P s) (b : Int) (List.range n) = sb l (jin P s) (b : Int) P := sb_sub hn (fun x hx => List.mem_range.2 (hlt x hx)) List.nodup_range fun x _ hx => by
    unfold jin; rw [if_neg hx]; omega
  have e2 : sb l (jin P s) (b : Int) P = sb l s.inn (b : Int) P := sb_congr fun i hi => by unfold jin; rw [if_pos hi]
  rw [e1, e2]
  by_cases hb : b < s.m
  · rw [if_pos hb, h.sum b hb]; omega
  · rw [if_neg hb, sb_none fun i hi => ?_]
    · omega
    · obtain ⟨c, e3, hc⟩ := h.lt i hi
      rw [e3]; omega
/-- The box that first fit takes. -/
def bxF (l : List Int) (s : Fs) (i : Nat) : Nat := match ((List.range s.m).map s.rm).findIdx? (fun r => decide (nm l i ≤ r)) with
  | some b => b
  | none => s.m
theorem bxF_le (l : List Int) (s : Fs) (i : Nat) : bxF l s i ≤ s.m := by
  unfold bxF
  cases e : ((List.range s.m).map s.rm).findIdx? (fun r => decide (nm l i ≤ r)) with
  | some b =>
    obtain ⟨hj, _⟩ := List.findIdx?_eq_some_iff_getElem.1 e
    show b ≤ s.m
    have : b < s.m := by simpa using hj
    omega
  | none => exact Nat.le_refl _
theorem bxF_no {l : List Int} {s : Fs} {i c : Nat} (h : c < bxF l s i) : c < s.m ∧ s.rm c < nm l i := by
  have hle := bxF_le l s i
  refine ⟨by omega, ?_⟩
  unfold bxF at h
  cases e : ((List.range s.m).map s.rm).findIdx? (fun r => decide (nm l i ≤ r)) with
  | some b =>
    rw [e] at h
    obtain ⟨hj, _, h2⟩ := List.findIdx?_eq_some_iff_getElem.1 e
    have := h2 c h
    simp at this
    omega
  | none =>
    rw [e] at h
    have := List.findIdx?_eq_none_iff.1 e (s.rm c) (List.mem_map.2 ⟨c, List.mem_range.2 h, rfl⟩)
    simp at this
    omega
theorem bxF_yes {l : List Int} {s : Fs} {i : Nat} (h : bxF l s i < s.m) : nm l i ≤ s.rm (bxF l s i) := by
  unfold bxF at h ⊢
  cases e : ((List.range s.m).map s.rm).findIdx? (fun r => decide (nm l i ≤ r)) with
  | some b =>
    obtain ⟨hj, h1, _⟩ := List.findIdx?_eq_some_iff_getElem.1 e
    simp at h1
    exact h1
  | none => rw [e] at h; exact absurd h (Nat.lt_irrefl _)
/-- A step of first fit, as Packed does it. -/
theorem fst_bxF (l : List Int) (size : Int) (s : Fs) (i : Nat) : (fst l size s i).inn = fp s.inn i (bxF l s i : Int) ∧ (fst l size s i).m = max s.m (bxF l s i + 1) := by
  unfold fst bxF
  cases e : ((List.range s.m).map s.rm).findIdx? (fun r => decide (nm l i ≤ r)) with
  | some b =>
    obtain ⟨hj, _⟩ := List.findIdx?_eq_some_iff_getElem.1 e
    have hb : b < s.m := by simpa using hj
    refine ⟨rfl, ?_⟩
    show s.m = max s.m (b + 1)
    omega
  | none =>
    refine ⟨rfl, ?_⟩
    show s.m + 1 = max s.m (s.m + 1)
    omega
theorem jin_snoc (l : List Int) (size : Int) (P : List Nat) (s : Fs) (i : Nat) : fp (jin P s) i (bxF l s i : Int) = jin (P ++ [i]) (fst l size s i) := by
  funext j
  unfold jin
  rw [(fst_bxF l size s i).1]
  by_cases e : j = i
  · rw [e, fp_same, if_pos (by simp), fp_same]
  · rw [fp_ne e, fp_ne e]
    have : (j ∈ P ++ [i]) ↔ j ∈ P := by simp; omega
    simp only [this]
/-- Packed's rounds: a box that has no room, or the one. -/
theorem room_no {l : List Int} {size : Int} {P : List Nat} {s : Fs} {n b i : Nat} (h : Inb l size P s) (hn : P.Nodup) (hlt : ∀ x ∈ P, x < n) (hb : b < bxF l s i) : size - sb l (jin P s) (b : Int) (List.range n) < nm l i := by
  obtain ⟨h1, h2⟩ := bxF_no hb
  rw [room_at h hn hlt, if_pos h1]
  exact h2
theorem room_yes {l : List Int} {size : Int} {P : List Nat} {s : Fs} {n i : Nat} (h : Inb l size P s) (hn : P.Nodup) (hlt : ∀ x ∈ P, x < n) (hx : nm l i ≤ size) : ¬ size - sb l (jin P s) (bxF l s i : Int) (List.range n) < nm l i := by
  rw [room_at h hn hlt]
  by_cases hb : bxF l s i < s.m
  · rw [if_pos hb]; have := bxF_yes hb; omega
  · rw [if_neg hb]; omega
end Go.Proofs.Ytfnkboegbclnaaa
