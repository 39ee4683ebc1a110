/- Normal asks: what is normal is right, its own, plain, and holds just where it held. -/
import Derived.Test.YtelepamnlpebgaaDoorSam
namespace Go.Proofs.YtelepamnlpebgaaDoor
open Go.RowKit Go.Shelf Akm Ndm
set_option linter.unusedSectionVars false
set_option linter.unusedVariables false

mutual
theorem ok_ind {P : Tr → Prop} (hn : ∀ a b n Y, okT Y → P Y → P (.mk 4 a b n [Y])) (h2 : ∀ k a b n Y Z, (k = 5 ∨ k = 6) → okT Y → okT Z → P Y → P Z → P (.mk k a b n [Y, Z])) (ha : ∀ k a b n, ¬ k = 4 → ¬ k = 5 → ¬ k = 6 → chE k a b n 0 = 0 → P (.mk k a b n [])) : ∀ t, okT t → P t
  | .mk k a b n xs, h => by
    have hs := okT_self h
    have hch := fun x hx => okT_child h (x := x) hx
    have hP := ok_each hn h2 ha xs hch
    have hl := (chE_zero hs).2.1
    by_cases h4 : k = 4
    · subst h4
      have : xs.length = 1 := by
        rw [show inK 4 = 1 from rfl] at hl
        exact Int.ofNat.inj hl
      match xs, this, hch, hP with
      | [y], _, hch, hP => exact hn a b n y (hch y (by simp)) (hP y (by simp))
    · by_cases h56 : k = 5 ∨ k = 6
      · have : xs.length = 2 := by
          rw [show inK k = 2 from if_pos h56] at hl
          exact Int.ofNat.inj hl
        match xs, this, hch, hP with
        | [y, z], _, hch, hP => exact h2 k a b n y z h56 (hch y (by simp)) (hch z (by simp)) (hP y (by simp)) (hP z (by simp))
      · have : xs.length = 0 := by
          rw [show inK k = 0 from by unfold inK; rw [if_neg h56, if_neg h4]] at hl
          exact Int.ofNat.inj hl
        obtain rfl := List.eq_nil_of_length_eq_zero this
        exact ha k a b n h4 (fun e => h56 (Or.inl e)) (fun e => h56 (Or.inr e)) hs
theorem ok_each {P : Tr → Prop} (hn : ∀ a b n Y, okT Y → P Y → P (.mk 4 a b n [Y])) (h2 : ∀ k a b n Y Z, (k = 5 ∨ k = 6) → okT Y → okT Z → P Y → P Z → P (.mk k a b n [Y, Z])) (ha : ∀ k a b n, ¬ k = 4 → ¬ k = 5 → ¬ k = 6 → chE k a b n 0 = 0 → P (.mk k a b n [])) : ∀ xs : List Tr, (∀ x ∈ xs, okT x) → ∀ x ∈ xs, P x
  | [], _, x, hx => by cases hx
  | u :: r, h, x, hx => by
    rcases List.mem_cons.1 hx with e | e
    · rw [e]
      exact ok_ind hn h2 ha u (h u (by simp))
    · exact ok_each hn h2 ha r (fun y hy => h y (by simp [hy])) x e
end
theorem nr_not (q : Bool) (a b : ByteArray) (n : Int) (Y : Tr) : nrT q (.mk 4 a b n [Y]) = nrT (!q) Y := by
  rw [nrT, if_pos rfl]
  rfl
theorem nr_two {k : Int} (h : k = 5 ∨ k = 6) (q : Bool) (a b : ByteArray) (n : Int) (Y Z : Tr) : nrT q (.mk k a b n [Y, Z]) = .mk (tuK k q) ⟨#[]⟩ ⟨#[]⟩ 0 [nrT q Y, nrT q Z] := by
  rw [nrT, if_neg (by omega), if_pos h]
  rfl
theorem nr_atom {k : Int} (h4 : ¬ k = 4) (h5 : ¬ k = 5) (h6 : ¬ k = 6) (q : Bool) (a b : ByteArray) (n : Int) (xs : List Tr) : nrT q (.mk k a b n xs) = if q = true then .mk 4 ⟨#[]⟩ ⟨#[]⟩ 0 [.mk k a b n []] else .mk k a b n [] := by
  rw [nrT, if_neg h4, if_neg (by omega)]
theorem tu_56 {k : Int} (h : k = 5 ∨ k = 6) (q : Bool) : tuK k q = 5 ∨ tuK k q = 6 := by
  unfold tuK
  split
  · split <;> simp
  · exact h
theorem ch_two {k : Int} (h : k = 5 ∨ k = 6) : chE k ⟨#[]⟩ ⟨#[]⟩ 0 2 = 0 := by
  rcases h with rfl | rfl <;> decide +kernel
theorem ch_not : chE 4 ⟨#[]⟩ ⟨#[]⟩ 0 1 = 0 := by decide +kernel
theorem ok_nr : ∀ t, okT t → ∀ q, okT (nrT q t) := ok_ind
  (fun a b n Y _ hY q => by rw [nr_not]; exact hY _)
  (fun k a b n Y Z h _ _ hY hZ q => by
    rw [nr_two h]
    refine okT_mk (ch_two (tu_56 h q)) ?_
    intro x hx
    rcases List.mem_cons.1 hx with e | e
    · rw [e]; exact hY q
    · obtain rfl := List.mem_singleton.1 e
      exact hZ q)
  (fun k a b n h4 h5 h6 hc q => by
    have h0 : okT (.mk k a b n []) := okT_mk hc (fun x hx => by cases hx)
    rw [nr_atom h4 h5 h6]
    cases q with
    | false => exact h0
    | true =>
      refine okT_mk ch_not ?_
      intro x hx
      obtain rfl := List.mem_singleton.1 hx
      exact h0)
theorem nr_nr : ∀ t, okT t → ∀ q, nrT false (nrT q t) = nrT q t := ok_ind
  (fun a b n Y _ hY q => by rw [nr_not]; exact hY _)
  (fun k a b n Y Z h _ _ hY hZ q => by
    rw [nr_two h, nr_two (tu_56 h q), hY, hZ]
    rfl)
  (fun k a b n h4 h5 h6 hc q => by
    rw [nr_atom h4 h5 h6]
    cases q with
    | false =>
      show nrT false (.mk k a b n []) = _
      rw [nr_atom h4 h5 h6]
    | true =>
      show nrT false (.mk 4 ⟨#[]⟩ ⟨#[]⟩ 0 [.mk k a b n []]) = _
      rw [nr_not, nr_atom h4 h5 h6]
      rfl)
theorem ho4x (f : Tr → Bool) (a b : ByteArray) (n : Int) (x : Tr) : hoT f (.mk 4 a b n [x]) = !(hoT f x) := by
  rw [hoT, if_pos rfl]
  rfl
theorem ho5x (f : Tr → Bool) (a b : ByteArray) (n : Int) (x y : Tr) : hoT f (.mk 5 a b n [x, y]) = (hoT f x && hoT f y) := by
  rw [hoT, if_neg (show ¬ ((5 : Int) = 4) by decide), if_pos rfl]
  rfl
theorem ho6x (f : Tr → Bool) (a b : ByteArray) (n : Int) (x y : Tr) : hoT f (.mk 6 a b n [x, y]) = (hoT f x || hoT f y) := by
  rw [hoT, if_neg (show ¬ ((6 : Int) = 4) by decide), if_neg (show ¬ ((6 : Int) = 5) by decide), if_pos rfl]
  rfl
theorem ho_atom (f : Tr → Bool) {k : Int} (h4 : ¬ k = 4) (h5 : ¬ k = 5) (h6 : ¬ k = 6) (a b : ByteArray) (n : Int) (xs : List Tr) : hoT f (.mk k a b n xs) = f (.mk k a b n xs) := by
  rw [hoT, if_neg h4, if_neg h5, if_neg h6]
/-- What is normal holds just where it held. -/
theorem ho_nr (f : Tr → Bool) : ∀ t, okT t → ∀ q, hoT f (nrT q t) = (q ^^ hoT f t) := ok_ind
  (fun a b n Y _ hY q => by
    rw [nr_not, hY, ho4x]
    cases q <;> cases hoT f Y <;> rfl)
  (fun k a b n Y Z h _ _ hY hZ q => by
    rw [nr_two h]
    rcases h with rfl | rfl
    · rw [ho5x]
      cases q with
      | false =>
        show hoT f (.mk 5 _ _ _ _) = _
        rw [ho5x, hY, hZ]
        cases hoT f Y <;> cases hoT f Z <;> rfl
      | true =>
        show hoT f (.mk 6 _ _ _ _) = _
        rw [ho6x, hY, hZ]
        cases hoT f Y <;> cases hoT f Z <;> rfl
    · rw [ho6x]
      cases q with
      | false =>
        show hoT f (.mk 6 _ _ _ _) = _
        rw [ho6x, hY, hZ]
        cases hoT f Y <;> cases hoT f Z <;> rfl
      | true =>
        show hoT f (.mk 5 _ _ _ _) = _
        rw [ho5x, hY, hZ]
        cases hoT f Y <;> cases hoT f Z <;> rfl)
  (fun k a b n h4 h5 h6 hc q => by
    rw [nr_atom h4 h5 h6]
    cases q with
    | false => show hoT f (.mk k a b n []) = _; simp
    | true =>
      show hoT f (.mk 4 ⟨#[]⟩ ⟨#[]⟩ 0 [.mk k a b n []]) = _
      rw [ho4x]
      cases hoT f (.mk k a b n []) <;> rfl)
theorem pl_nr : ∀ t, okT t → ∀ q, plT (nrT q t) := ok_ind
  (fun a b n Y _ hY q => by rw [nr_not]; exact hY _)
  (fun k a b n Y Z h _ _ hY hZ q => by
    rw [nr_two h, plT, plL, plL, plL]
    exact ⟨fun e => by rcases tu_56 h q with e2 | e2 <;> omega, hY q, hZ q, trivial⟩)
  (fun k a b n h4 h5 h6 hc q => by
    rw [nr_atom h4 h5 h6]
    cases q with
    | false =>
      show plT (.mk k a b n [])
      rw [plT, plL]
      exact ⟨fun e => absurd e h4, trivial⟩
    | true =>
      show plT (.mk 4 ⟨#[]⟩ ⟨#[]⟩ 0 [.mk k a b n []])
      rw [plT, plL, plL, plT, plL]
      exact ⟨fun _ => ⟨k, a, b, n, rfl⟩, ⟨fun e => absurd e h4, trivial⟩, trivial⟩)
end Go.Proofs.YtelepamnlpebgaaDoor
