/- Normal asks: the mathematics; strings.Clone, ask.turned. -/
import Derived.Test.YtelepamnlpebgaaDoorAho
import Derived.Test.YtelepamnlpebgaaDoorShelf
namespace Go.Proofs.YtelepamnlpebgaaDoor
open Go.RowKit Go.Shelf Akm Ndm
set_option linter.unusedSectionVars false
set_option linter.unusedVariables false

theorem clone_any (s : ByteArray) (hs : s.size ≤ 20) (w : World) : Calls Tryd.prog 69 #[.string s] w fun e w' => e = .returned (.string s) ∧ Below w.heap.size w w' := by
  have hc := Tryd.stringslite_Clone s w (by omega)
  clear hs
  go_enter Tryd.func69, Tryd.ntmps69
  go_wp2_with (first
    | (go_at_call 83; refine hc.mono ?_; rintro e w3 ⟨rfl, hb3⟩; clear hc)
    | go_in)
  go_ret
  exact ⟨rfl, hb3⟩

/-- What an ask of two is made by an ANot ahead of it. -/
def tuK (k : Int) (q : Bool) : Int := if q = true then (if k = 5 then 6 else 5) else k
theorem turned_any (k : Int) (q : Bool) (w : World) : Calls Tryd.prog 68 #[.int .i64 k, .bool q] w fun e w' => e = .returned (.int .i64 (tuK k q)) ∧ w' = w := by
  cases q with
  | false =>
    have h : tuK k false = k := rfl
    rw [h]
    clear h
    go_enter Tryd.func68, Tryd.ntmps68
    go_wp2
    go_ret
    exact ⟨rfl, rfl⟩
  | true =>
    by_cases h5 : k = 5
    · subst h5
      go_enter Tryd.func68, Tryd.ntmps68
      go_wp2
      go_ret
      exact ⟨rfl, rfl⟩
    · have h : tuK k true = 5 := by unfold tuK; rw [if_pos rfl, if_neg h5]
      rw [h]
      have h5' : (k == 5) = false := by simpa using h5
      clear h h5
      go_enter Tryd.func68, Tryd.ntmps68
      go_wp2
      go_ret
      exact ⟨rfl, rfl⟩

mutual
/-- The normal one of an ask, or of ANot of it. -/
def nrT (q : Bool) : Tr → Tr
  | .mk k a b n xs => if k = 4 then (nrL (!q) xs).getD 0 (.mk 0 ⟨#[]⟩ ⟨#[]⟩ 0 []) else if k = 5 ∨ k = 6 then .mk (tuK k q) ⟨#[]⟩ ⟨#[]⟩ 0 (nrL q xs) else if q = true then .mk 4 ⟨#[]⟩ ⟨#[]⟩ 0 [.mk k a b n []] else .mk k a b n []
def nrL (q : Bool) : List Tr → List Tr
  | [] => []
  | x :: r => nrT q x :: nrL q r
end
/-- Nothing is wrong with any in it. -/
def okT (t : Tr) : Prop := ∀ y ∈ allT t, chT y = 0
theorem okT_child {k : Int} {a b : ByteArray} {n : Int} {xs : List Tr} (h : okT (.mk k a b n xs)) {x : Tr} (hx : x ∈ xs) : okT x := fun y hy => h y (by rw [allT]; exact List.mem_cons_of_mem _ (mem_allL hx hy))
theorem okT_self {k : Int} {a b : ByteArray} {n : Int} {xs : List Tr} (h : okT (.mk k a b n xs)) : chE k a b n xs.length = 0 := h (.mk k a b n xs) (by rw [allT]; simp)
theorem okT_of {t : Tr} (h : ckT t = 0) : okT t ∧ szT t ≤ 60 := by
  unfold ckT at h
  by_cases h60 : 60 < szT t
  · rw [if_pos h60] at h
    cases h
  · rw [if_neg h60] at h
    exact ⟨ckL_zero h, by omega⟩
theorem ckL_ok : ∀ {l : List Tr}, (∀ x ∈ l, chT x = 0) → ckL l = 0
  | [], _ => rfl
  | x :: r, h => by
    rw [ckL, if_pos (h x (by simp))]
    exact ckL_ok fun y hy => h y (by simp [hy])
theorem ckT_ok {t : Tr} (h : okT t) (h60 : szT t ≤ 60) : ckT t = 0 := by
  unfold ckT
  rw [if_neg (by omega)]
  exact ckL_ok h
theorem okT_mk {k : Int} {a b : ByteArray} {n : Int} {xs : List Tr} (h0 : chE k a b n xs.length = 0) (h : ∀ x ∈ xs, okT x) : okT (.mk k a b n xs) := by
  intro y hy
  rw [allT] at hy
  rcases List.mem_cons.1 hy with e | e
  · rw [e]; exact h0
  · have : ∀ (l : List Tr), (∀ x ∈ l, okT x) → y ∈ allL l → chT y = 0 := by
      intro l
      induction l with
      | nil => intro _ h; rw [allL] at h; cases h
      | cons x r ih =>
        intro hl hm
        rw [allL, List.mem_append] at hm
        rcases hm with hm | hm
        · exact hl x (by simp) y hm
        · exact ih (fun z hz => hl z (by simp [hz])) hm
    exact this xs h e

theorem chE_zero {k : Int} {a b : ByteArray} {n : Int} {m : Nat} (h : chE k a b n m = 0) : (1 ≤ k ∧ k ≤ 6) ∧ (m : Int) = inK k ∧ hoB k a b n m = false ∧ fmB k a b = true ∧ 0 ≤ n ∧ n ≤ 1099511627776 := by
  unfold chE at h
  by_cases h2 : (!knK k || ((m : Int) != inK k || hoB k a b n m)) = true
  · rw [if_pos h2] at h
    cases h
  · rw [if_neg h2] at h
    simp only [Bool.or_eq_true, Bool.not_eq_true', bne_iff_ne, not_or, Bool.not_eq_false, ne_eq, Decidable.not_not, Bool.not_eq_true] at h2
    obtain ⟨g1, g2, g3⟩ := h2
    unfold knK at g1
    have g1' := of_decide_eq_true g1
    by_cases h4 : fmB k a b = false
    · rw [if_pos h4] at h
      cases h
    · rw [if_neg h4] at h
      by_cases h5 : n < 0
      · rw [if_pos h5] at h; cases h
      · rw [if_neg h5] at h
        by_cases h6 : 1099511627776 < n
        · rw [if_pos h6] at h; cases h
        · exact ⟨g1', g2, g3, by simpa using h4, by omega, by omega⟩
theorem chE_mk {k : Int} {a b : ByteArray} {n : Int} {m : Nat} (h1 : 1 ≤ k ∧ k ≤ 6) (h2 : (m : Int) = inK k) (h3 : hoB k a b n m = false) (h4 : fmB k a b = true) (h5 : 0 ≤ n) (h6 : n ≤ 1099511627776) : chE k a b n m = 0 := by
  unfold chE
  have : knK k = true := decide_eq_true h1
  rw [if_neg (by simp [this, h2, h3]), if_neg (by simp [h4]), if_neg (by omega), if_neg (by omega)]

theorem isEmpty_size {s : ByteArray} (h : s.toList.isEmpty = true) : s.size = 0 := by
  have : s.data.toList.length = s.size := by simp
  rw [ByteArray.toList_eq] at h
  rw [← this, List.isEmpty_iff.1 h]
  rfl
theorem size_empty {s : ByteArray} (h : s.size = 0) : s = ⟨#[]⟩ := by
  apply ByteArray.ext
  exact Array.eq_empty_of_size_eq_zero h
theorem lb_size {s : ByteArray} (h : lbB s.data.toList = true) : s.size ≤ 20 := by
  unfold lbB at h
  simp only [Bool.and_eq_true, decide_eq_true_eq] at h
  have : s.data.toList.length = s.size := by simp
  omega
/-- Of what is right the texts are short. -/
theorem chE_sizes {k : Int} {a b : ByteArray} {n : Int} {m : Nat} (h : chE k a b n m = 0) : a.size ≤ 20 ∧ b.size ≤ 20 := by
  obtain ⟨h1, h2, h3, h4, _, _⟩ := chE_zero h
  unfold hoB at h3
  simp only [Bool.or_eq_false_iff, Bool.and_eq_false_iff, decide_eq_false_iff_not, Decidable.not_not, Bool.not_eq_false'] at h3
  obtain ⟨⟨g1, g2⟩, g3⟩ := h3
  unfold fmB at h4
  constructor
  · by_cases e1 : k = 1
    · rw [if_pos e1] at h4
      exact lb_size h4
    · rw [if_neg e1] at h4
      by_cases e2 : k = 2
      · rw [if_pos e2] at h4
        simp only [Bool.and_eq_true] at h4
        exact lb_size h4.1
      · rw [if_neg e2] at h4
        by_cases e3 : k = 3
        · rw [if_pos e3] at h4
          have : a.data.toList.length = a.size := by simp
          unfold amB at h4
          simp at h4
          rcases h4 with h4 | h4 | h4 <;> (have e9 := congrArg List.length h4; rw [this] at e9; simp at e9; omega)
        · rcases g1 with g1 | g1
          · exfalso
            have : inK k ≠ 0 := by
              unfold inK
              split
              · omega
              · split <;> omega
            omega
          · have := isEmpty_size g1; omega
  · rcases g2 with g2 | g2
    · rw [g2, if_neg (by omega), if_pos rfl] at h4
      simp only [Bool.and_eq_true] at h4
      exact lb_size h4.2
    · have := isEmpty_size g2; omega
end Go.Proofs.YtelepamnlpebgaaDoor
