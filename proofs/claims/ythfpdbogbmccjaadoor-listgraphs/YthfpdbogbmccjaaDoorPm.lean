/- The mathematics of when things may begin and must: what is told of each by its edges is told once, and is the least, or the greatest. No program is named here. -/
import Derived.Test.YthfpdbogbmccjaaDoorGm
namespace Go.Proofs.YthfpdbogbmccjaaDoor.Pm
open Go Gm

/-- What holds of each thing of which it holds of all ahead of it holds of all, where nothing comes behind itself. -/
theorem acyc_ind {l : List Ed} {n : Nat} (hg : Gr n l) (hac : ∀ i, ¬ Rch (eB l) i i) {P : Nat → Prop} (h : ∀ j, j < n → (∀ i, eB l i j = true → P i) → P j) : ∀ j, j < n → P j := by
  intro j hj
  refine Classical.byContradiction fun hn => ?_
  haveI : DecidablePred P := fun _ => Classical.propDecidable _
  have mem : ∀ i, i ∈ ((List.range n).filter fun i => decide (P i)) ↔ i < n ∧ P i := fun i => by simp
  obtain ⟨i, hi⟩ := Gm.stuck hg (R := (List.range n).filter fun i => decide (P i)) (fun c hc hcR => by
    have hnc : ¬ P c := fun x => hcR ((mem c).2 ⟨hc, x⟩)
    refine Classical.byContradiction fun hno => hnc (h c hc fun i hi => ?_)
    refine Classical.byContradiction fun hni => hno ⟨i, hi, fun x => hni ((mem i).1 x).2⟩) hj (fun x => hn ((mem j).1 x).2)
  exact hac i hi
theorem gr_trn {l : List Ed} {n : Nat} (hg : Gr n l) : Gr n (trn l) := ⟨hg.n60, fun e he => by
  unfold trn at he
  obtain ⟨x, hx, rfl⟩ := List.mem_map.1 he
  have := hg.ok x hx
  exact ⟨this.2.2.1, this.2.2.2, this.1, this.2.1⟩⟩
theorem acyc_back {l : List Ed} {n : Nat} (hg : Gr n l) (hac : ∀ i, ¬ Rch (eB l) i i) {P : Nat → Prop} (h : ∀ i, i < n → (∀ j, eB l i j = true → P j) → P i) : ∀ i, i < n → P i :=
  acyc_ind (gr_trn hg) (fun i hi => hac i (rch_trn_iff.1 hi)) fun j hj hh => h j hj fun i hi => hh i (by rw [eB_trn]; exact hi)

structure Earl (l : List Ed) (D : Nat → Int) (n : Nat) (E : Nat → Int) : Prop where
  lo : ∀ j, j < n → 0 ≤ E j
  edge : ∀ i j, eB l i j = true → E i + D i ≤ E j
  why : ∀ j, j < n → E j = 0 ∨ ∃ i, eB l i j = true ∧ E j = E i + D i
structure Spn (E D : Nat → Int) (n : Nat) (S : Int) : Prop where
  lo : 0 ≤ S
  up : ∀ i, i < n → E i + D i ≤ S
  why : S = 0 ∨ ∃ i, i < n ∧ S = E i + D i
structure Latl (l : List Ed) (D : Nat → Int) (n : Nat) (S : Int) (L : Nat → Int) : Prop where
  up : ∀ i, i < n → L i + D i ≤ S
  edge : ∀ i j, eB l i j = true → L i + D i ≤ L j
  why : ∀ i, i < n → L i + D i = S ∨ ∃ j, eB l i j = true ∧ L i + D i = L j
theorem Earl.least {l : List Ed} {D E T : Nat → Int} {n : Nat} (hg : Gr n l) (hac : ∀ i, ¬ Rch (eB l) i i) (h : Earl l D n E) (h0 : ∀ j, j < n → 0 ≤ T j) (he : ∀ i j, eB l i j = true → T i + D i ≤ T j) : ∀ j, j < n → E j ≤ T j :=
  acyc_ind hg hac fun j hj hh => by
    rcases h.why j hj with e | ⟨i, hi, e⟩
    · rw [e]; exact h0 j hj
    · have := hh i hi
      have := he i j hi
      omega
theorem Earl.uniq {l : List Ed} {D E E' : Nat → Int} {n : Nat} (hg : Gr n l) (hac : ∀ i, ¬ Rch (eB l) i i) (h : Earl l D n E) (h' : Earl l D n E') : ∀ j, j < n → E j = E' j := fun j hj => by
  have := h.least hg hac h'.lo h'.edge j hj
  have := h'.least hg hac h.lo h.edge j hj
  omega
theorem Spn.least {E D T : Nat → Int} {n : Nat} {S Z : Int} (h : Spn E D n S) (hT : ∀ i, i < n → E i ≤ T i) (h0 : 0 ≤ Z) (hZ : ∀ i, i < n → T i + D i ≤ Z) : S ≤ Z := by
  rcases h.why with e | ⟨i, hi, e⟩
  · omega
  · have := hT i hi
    have := hZ i hi
    omega
theorem Spn.uniq {E E' D : Nat → Int} {n : Nat} {S S' : Int} (h : Spn E D n S) (h' : Spn E' D n S') (he : ∀ i, i < n → E i = E' i) : S = S' := by
  have h1 := h.least (T := E') (fun i hi => by rw [he i hi]; exact Int.le_refl _) h'.lo h'.up
  have h2 := h'.least (T := E) (fun i hi => by rw [he i hi]; exact Int.le_refl _) h.lo h.up
  omega
theorem Latl.most {l : List Ed} {D L T : Nat → Int} {n : Nat} {S : Int} (hg : Gr n l) (hac : ∀ i, ¬ Rch (eB l) i i) (h : Latl l D n S L) (h0 : ∀ i, i < n → T i + D i ≤ S) (he : ∀ i j, eB l i j = true → T i + D i ≤ T j) : ∀ i, i < n → T i ≤ L i :=
  acyc_back hg hac fun i hi hh => by
    rcases h.why i hi with e | ⟨j, hj, e⟩
    · have := h0 i hi; omega
    · have := hh j hj
      have := he i j hj
      omega
theorem Latl.uniq {l : List Ed} {D L L' : Nat → Int} {n : Nat} {S : Int} (hg : Gr n l) (hac : ∀ i, ¬ Rch (eB l) i i) (h : Latl l D n S L) (h' : Latl l D n S L') : ∀ j, j < n → L j = L' j := fun j hj => by
  have := h.most hg hac h'.up h'.edge j hj
  have := h'.most hg hac h.up h.edge j hj
  omega
/-- A plan. -/
structure Pln (l : List Ed) (D : Nat → Int) (n : Nat) (E L : Nat → Int) (S : Int) : Prop where
  e : Earl l D n E
  s : Spn E D n S
  t : Latl l D n S L
theorem Pln.le {l : List Ed} {D E L : Nat → Int} {n : Nat} {S : Int} (hg : Gr n l) (hac : ∀ i, ¬ Rch (eB l) i i) (h : Pln l D n E L S) : ∀ i, i < n → E i ≤ L i := h.t.most hg hac h.s.up h.e.edge
theorem Pln.uniq {l : List Ed} {D E L E' L' : Nat → Int} {n : Nat} {S S' : Int} (hg : Gr n l) (hac : ∀ i, ¬ Rch (eB l) i i) (h : Pln l D n E L S) (h' : Pln l D n E' L' S') : (∀ j, j < n → E j = E' j) ∧ (∀ j, j < n → L j = L' j) ∧ S = S' := by
  have h1 := h.e.uniq hg hac h'.e
  have h2 := h.s.uniq h'.s h1
  subst h2
  exact ⟨h1, h.t.uniq hg hac h'.t, rfl⟩
/-- How late anything can be. -/
theorem Earl.most {l : List Ed} {D E : Nat → Int} {n : Nat} (hg : Gr n l) (hac : ∀ i, ¬ Rch (eB l) i i) (hD : ∀ i, i < n → 0 ≤ D i ∧ D i ≤ 1000000000) (h : Earl l D n E) : ∀ j, j < n → E j ≤ 60000000000 := by
  have key : ∀ j, j < n → E j ≤ 1000000000 * (((List.range n).filter fun i => wB l i j).length : Int) :=
    acyc_ind hg hac fun j hj hh => by
      rcases h.why j hj with e | ⟨i, hi, e⟩
      · omega
      · have h1 := hh i hi
        have hin := (hg.lt hi).1
        have h2 := filter_lt (p := fun k => wB l k i) (q := fun k => wB l k j) (l := List.range n) (fun x _ hx => (wB_iff hg).2 (((wB_iff hg).1 hx).snoc hi)) i (by simpa using hin) ((wB_iff hg).2 (.one hi)) (by
          cases e : wB l i i
          · rfl
          · exact absurd ((wB_iff hg).1 e) (hac i))
        have h3 := (hD i hin).2
        omega
  intro j hj
  have h1 := key j hj
  have h2 : ((List.range n).filter fun i => wB l i j).length ≤ n := by
    have := List.length_filter_le (fun i => wB l i j) (List.range n)
    simpa using this
  have := hg.n60
  omega
theorem Pln.bounds {l : List Ed} {D E L : Nat → Int} {n : Nat} {S : Int} (hg : Gr n l) (hac : ∀ i, ¬ Rch (eB l) i i) (hD : ∀ i, i < n → 0 ≤ D i ∧ D i ≤ 1000000000) (h : Pln l D n E L S) : (∀ j, j < n → 0 ≤ E j ∧ E j ≤ L j ∧ L j ≤ S) ∧ 0 ≤ S ∧ S ≤ 61000000000 := by
  have hm := h.e.most hg hac hD
  refine ⟨fun j hj => ⟨h.e.lo j hj, h.le hg hac j hj, ?_⟩, h.s.lo, ?_⟩
  · have := h.t.up j hj; have := hD j hj; omega
  · rcases h.s.why with e | ⟨i, hi, e⟩
    · omega
    · have := hm i hi; have := hD i hi; omega
/-- Whatever other times: PathLeast. -/
theorem Pln.least {l : List Ed} {D E L T : Nat → Int} {n : Nat} {S Z : Int} (hg : Gr n l) (hac : ∀ i, ¬ Rch (eB l) i i) (h : Pln l D n E L S) (h0 : ∀ j, j < n → 0 ≤ T j) (he : ∀ i j, eB l i j = true → T i + D i ≤ T j) (hz : 0 ≤ Z) (hZ : ∀ i, i < n → T i + D i ≤ Z) : (∀ j, j < n → E j ≤ T j) ∧ S ≤ Z :=
  ⟨h.e.least hg hac h0 he, h.s.least (h.e.least hg hac h0 he) hz hZ⟩
/-- So many times as long: PathScale. -/
theorem Pln.scale {l : List Ed} {D E L : Nat → Int} {n : Nat} {S b : Int} (h : Pln l D n E L S) (hb : 0 ≤ b) : Pln l (fun i => D i * b) n (fun i => E i * b) (fun i => L i * b) (S * b) := by
  have mul : ∀ {x y : Int}, x ≤ y → x * b ≤ y * b := fun h => Int.mul_le_mul_of_nonneg_right h hb
  refine ⟨⟨fun j hj => Int.mul_nonneg (h.e.lo j hj) hb, fun i j hi => ?_, fun j hj => ?_⟩, ⟨Int.mul_nonneg h.s.lo hb, fun i hi => ?_, ?_⟩, ⟨fun i hi => ?_, fun i j hi => ?_, fun i hi => ?_⟩⟩
  · rw [← Int.add_mul]; exact mul (h.e.edge i j hi)
  · rcases h.e.why j hj with e | ⟨i, hi, e⟩
    · exact Or.inl (by simp only [e, Int.zero_mul])
    · exact Or.inr ⟨i, hi, by simp only [e, Int.add_mul]⟩
  · rw [← Int.add_mul]; exact mul (h.s.up i hi)
  · rcases h.s.why with e | ⟨i, hi, e⟩
    · exact Or.inl (by rw [e, Int.zero_mul])
    · exact Or.inr ⟨i, hi, by simp only [e, Int.add_mul]⟩
  · rw [← Int.add_mul]; exact mul (h.t.up i hi)
  · rw [← Int.add_mul]; exact mul (h.t.edge i j hi)
  · rcases h.t.why i hi with e | ⟨j, hj, e⟩
    · exact Or.inl (by simp only [← Int.add_mul, e])
    · exact Or.inr ⟨j, hj, by simp only [← Int.add_mul, e]⟩
def fp (E : Nat → Int) (j : Nat) (v : Int) : Nat → Int := fun k => if k = j then v else E k
theorem fp_same (E : Nat → Int) (j : Nat) (v : Int) : fp E j v j = v := by simp [fp]
theorem fp_ne {E : Nat → Int} {j k : Nat} {v : Int} (h : k ≠ j) : fp E j v k = E k := by simp [fp, h]
/-- Who takes longer: PathSlack. -/
theorem Pln.slack {l : List Ed} {D E L E' L' : Nat → Int} {n i : Nat} {S S' m : Int} (hg : Gr n l) (hac : ∀ i, ¬ Rch (eB l) i i) (h : Pln l D n E L S) (hi : i < n) (hm : 0 ≤ m) (h' : Pln l (fp D i (D i + (L i - E i) + m)) n E' L' S') : S' = S + m := by
  have hle := h.le hg hac
  have hDD : ∀ k, k < n → D k ≤ fp D i (D i + (L i - E i) + m) k := fun k hk => by
    by_cases e : k = i
    · subst e; rw [fp_same]; have := hle k hk; omega
    · rw [fp_ne e]; exact Int.le_refl _
  have hEE : ∀ j, j < n → E j ≤ E' j := h.e.least hg hac h'.e.lo fun a b hab => by
    have := h'.e.edge a b hab
    have := hDD a (hg.lt hab).1
    omega
  -- a plan that takes so much longer
  have up : S' ≤ S + m := by
    haveI : DecidablePred (fun j => Rch (eB l) i j) := fun _ => Classical.propDecidable _
    refine (h'.least hg hac (T := fun j => if Rch (eB l) i j then L j + m else E j) (fun j hj => ?_) (fun a b hab => ?_) (by have := h.s.lo; omega) (fun j hj => ?_)).2
    · have h1 := hle j hj
      have h2 := h.e.lo j hj
      show (0 : Int) ≤ if Rch (eB l) i j then L j + m else E j
      split <;> omega
    · show (if Rch (eB l) i a then L a + m else E a) + fp D i (D i + (L i - E i) + m) a ≤ if Rch (eB l) i b then L b + m else E b
      have hl := hg.lt hab
      by_cases ea : a = i
      · subst ea
        rw [if_neg (hac a), if_pos (.one hab), fp_same]
        have := h.t.edge a b hab
        omega
      · rw [fp_ne ea]
        by_cases ra : Rch (eB l) i a
        · rw [if_pos ra, if_pos (ra.snoc hab)]
          have := h.t.edge a b hab
          omega
        · rw [if_neg ra]
          have h1 := h.e.edge a b hab
          have h2 := hle b hl.2
          split <;> omega
    · show (if Rch (eB l) i j then L j + m else E j) + fp D i (D i + (L i - E i) + m) j ≤ S + m
      have h1 := h.t.up j hj
      have h2 := h.s.up j hj
      by_cases ej : j = i
      · subst ej
        rw [if_neg (hac j), fp_same]
        omega
      · rw [fp_ne ej]
        split <;> omega
  -- and none that takes less
  have tail : ∀ j, j < n → L j + m ≤ E' j → S + m ≤ S' := acyc_back hg hac fun j hj hh he => by
    rcases h.t.why j hj with e | ⟨k, hk, e⟩
    · have := h'.s.up j hj
      have := hDD j hj
      omega
    · refine hh k hk ?_
      have := h'.e.edge j k hk
      have := hDD j hj
      omega
  have dn : S + m ≤ S' := by
    have h1 := hEE i hi
    rcases h.t.why i hi with e | ⟨k, hk, e⟩
    · have := h'.s.up i hi
      rw [fp_same] at this
      omega
    · refine tail k (hg.lt hk).2 ?_
      have := h'.e.edge i k hk
      rw [fp_same] at this
      omega
  omega
end Go.Proofs.YthfpdbogbmccjaaDoor.Pm
