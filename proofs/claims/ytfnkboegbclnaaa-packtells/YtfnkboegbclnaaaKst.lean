/- Package pack: the row of things, the greatest ones first: Down's sort. -/
import Derived.Test.YtfnkboegbclnaaaKfi
import Derived.Test.YtfnkboegbclnaaaSst
namespace Go.Proofs.Ytfnkboegbclnaaa
open Go.RowKit Go.Shelf Go.Lib Go.Sort Stm
set_option linter.unusedSectionVars false
set_option linter.unusedVariables false

theorem swo_old {α : Type} [Inhabited α] (enc : α → Value) (w : World) (g m : Nat) (d : Array α) (os : Array Obj) {k : Nat} (hk : k < w.heap.size) (hne : k ≠ g) : (sortWorld enc w g 0 m d os).heap[k]? = w.heap[k]? := by
  have h1 : (putRow enc (Go.Sort.ahead w m) g 0 d).heap.size = w.heap.size := by simp [putRow, mapBlock, Go.Sort.ahead]
  unfold sortWorld
  rw [heap_grow_old _ _ (by omega)]
  simp [putRow, mapBlock, Go.Sort.ahead, Array.getElem?_modify, Ne.symm hne]
theorem swo_size {α : Type} [Inhabited α] (enc : α → Value) (w : World) (g m : Nat) (d : Array α) (os : Array Obj) : w.heap.size ≤ (sortWorld enc w g 0 m d os).heap.size := by
  unfold sortWorld
  simp [putRow, mapBlock, Go.Sort.ahead]
theorem cell_of_heap {w w' : World} {a : Addr} (h : w'.heap[a.block]? = w.heap[a.block]?) : w'.cell? a = w.cell? a := by
  unfold World.cell?; rw [h]

def cmpI (x y : Int) : Int := if x < y then -1 else if y < x then 1 else 0
theorem isnan64_any (x : Int) (w : World) : Calls Try.prog 37 #[.int .i64 x] w fun e w' => e = .returned (.bool false) ∧ w' = w := by
  go_enter Try.func37, Try.ntmps37
  go_wp2
  go_ret
  exact ⟨by simp, rfl⟩
set_option maxRecDepth 100000 in
theorem compare64_any (x y : Int) (w : World) : Calls Try.prog 27 #[.int .i64 x, .int .i64 y] w fun e w' => e = .returned (.int .i64 (cmpI x y)) ∧ w' = w := by
  have hn := isnan64_any
  by_cases h1 : x < y
  · have e : cmpI x y = -1 := by simp [cmpI, h1]
    rw [e]
    go_enter Try.func27, Try.ntmps27
    go_wp2_with (first | (go_at_call 37; refine (hn _ _).mono ?_; rintro e w' ⟨rfl, rfl⟩) | go_in)
    go_ret
    exact ⟨rfl, rfl⟩
  · by_cases h2 : y < x
    · have e : cmpI x y = 1 := by simp [cmpI, h1, h2]
      rw [e]
      go_enter Try.func27, Try.ntmps27
      go_wp2_with (first | (go_at_call 37; refine (hn _ _).mono ?_; rintro e w' ⟨rfl, rfl⟩) | go_in)
      go_ret
      exact ⟨rfl, rfl⟩
    · have e : cmpI x y = 0 := by simp [cmpI, h1, h2]
      rw [e]
      go_enter Try.func27, Try.ntmps27
      go_wp2_with (first | (go_at_call 37; refine (hn _ _).mono ?_; rintro e w' ⟨rfl, rfl⟩) | go_in)
      go_ret
      exact ⟨rfl, rfl⟩

set_option maxHeartbeats 1000000 in
set_option maxRecDepth 100000 in
theorem down1_any {w : World} {b i k c : Nat} {q : Option Addr} {l : List Int} (hl : Nums w q l) (hi : i < l.length) (hk : k < l.length) (h1 : w.cell? ⟨b, 0, none⟩ = some (.slice q l.length c)) :
    Calls Try.prog 26 #[.int .i64 (i : Int), .int .i64 (k : Int), .pointer (some ⟨b, 0, none⟩)] w fun e w' => e = .returned (.int .i64 (cmpI (nm l k) (nm l i))) ∧ ∃ n, w' = w.drewN n := by
  rcases hl with h0 | ⟨g, o, rfl, hA⟩
  · omega
  have z0 := hA.c i hi
  have z1 := hA.c k hk
  have hii : (i : Int) < (l.length : Int) := by omega
  have hkk : (k : Int) < (l.length : Int) := by omega
  have hc := compare64_any (nm l k) (nm l i)
  generalize nm l i = x at *
  generalize nm l k = y at *
  clear hA hi hk
  go_enter Try.func26, Try.ntmps26
  go_wp2
  go_quiet ((go_at_call 27; exact Calls.quiet_of_same (hc _)))
  go_wp2
  go_ret
  exact ⟨rfl, _, rfl⟩

/-! ### The sort -/
structure ThF (n : Nat) where
  val : Nat
  property : val < n
def thV (n : Nat) (x : ThF n) : Value := .int .i64 (x.val : Int)
def thC (l : List Int) (n : Nat) (x y : ThF n) : Int := cmpI (nm l y.val) (nm l x.val)
def thT (l : List Int) (n : Nat) (x y : ThF n) : Prop := nm l y.val < nm l x.val ∨ (nm l y.val = nm l x.val ∧ x.val < y.val)
theorem lt_thC {l : List Int} {n : Nat} {x y : ThF n} : ltOf (thC l n) x y = true ↔ nm l y.val < nm l x.val := by
  unfold ltOf thC cmpI
  rw [decide_eq_true_iff]
  constructor
  · intro h
    by_cases h1 : nm l y.val < nm l x.val
    · exact h1
    · rw [if_neg h1] at h
      split at h <;> omega
  · intro h
    rw [if_pos h]; omega
theorem th_ord (l : List Int) (n : Nat) : Ord (ltOf (thC l n)) (thT l n) := by
  refine ⟨fun x y z h1 h2 => ?_, fun x y h1 h2 => ?_, fun x y h1 h2 => ?_⟩
  · unfold thT at *; omega
  · unfold thT at *; omega
  · rw [lt_thC] at h1 h2; omega
def thA (n : Nat) : Array (ThF n) := ((List.finRange n).map fun (i : Fin n) => (⟨i.val, i.isLt⟩ : ThF n)).toArray
theorem thA_size (n : Nat) : (thA n).size = n := by simp [thA]
theorem thA_get {n i : Nat} [Inhabited (ThF n)] (h : i < n) : (thA n)[i]! = ⟨i, h⟩ := by
  rw [getElem!_pos _ i (by rw [thA_size]; exact h)]
  simp [thA]
theorem th_stb (l : List Int) (n : Nat) [Inhabited (ThF n)] : Stb (ltOf (thC l n)) (thT l n) (thA n) := by
  refine ⟨fun p q hpq hq => ?_, fun p q hpq hq => ?_⟩
  · rw [thA_size] at hq
    rw [thA_get hq, thA_get (show p < n by omega), lt_thC]
    unfold thT
    exact ⟨fun h => Or.inl h, fun h => by have : p < q := hpq; rcases h with h | h; exact h; exact absurd h.2 (by show ¬ q < p; omega)⟩
  · rw [thA_size] at hq
    rw [thA_get hq, thA_get (show p < n by omega)]
    unfold thT
    show (nm l q < nm l p ∨ nm l q = nm l p ∧ p < q) ∨ (nm l p < nm l q ∨ nm l p = nm l q ∧ q < p)
    omega
/-- A row of all numbers below n. -/
structure Perm0 (n : Nat) (R : List Nat) : Prop where
  len : R.length = n
  perm : R.Perm (List.range n)
theorem perm_of_f {n : Nat} {f g : Nat → Nat} (h2 : ∀ k, g (f k) = k) (h3 : ∀ k, f (g k) = k) (h4 : ∀ k, (k < 0 ∨ n ≤ k) → f k = k) : Perm0 n ((List.range n).map f) := by
  refine ⟨by simp, ?_⟩
  have hin : ∀ k, k < n → f k < n := fun k hk => (inj_in h2 h4 ⟨Nat.zero_le _, hk⟩).2
  have hing : ∀ k, k < n → g k < n := fun k hk => by
    by_cases e : g k < n
    · exact e
    · have := h4 (g k) (Or.inr (by omega))
      rw [h3] at this
      omega
  rw [List.perm_ext_iff_of_nodup]
  · intro a
    rw [List.mem_map, List.mem_range]
    constructor
    · rintro ⟨k, hk, rfl⟩; exact hin k (List.mem_range.1 hk)
    · intro ha; exact ⟨g a, List.mem_range.2 (hing a ha), h3 a⟩
  · refine List.Pairwise.map f (R := (· ≠ ·)) (fun a b hab e => hab (by rw [← h2 a, e, h2])) List.nodup_range
  · exact List.nodup_range
theorem Perm0.range (n : Nat) : Perm0 n (List.range n) := ⟨by simp, List.Perm.refl _⟩
theorem Perm0.lt {n : Nat} {R : List Nat} (h : Perm0 n R) : ∀ i ∈ R, i < n := fun i hi => List.mem_range.1 (h.perm.mem_iff.1 hi)
/-- The greatest ones first, those of one size in order. -/
def Dwn (l : List Int) (R : List Nat) : Prop := ∀ p q, p < q → q < R.length → nm l (R.getD q 0) < nm l (R.getD p 0) ∨ (nm l (R.getD q 0) = nm l (R.getD p 0) ∧ R.getD p 0 < R.getD q 0)

set_option maxRecDepth 100000 in
theorem insI_none (p : Option Addr) (cap : Nat) (fv : Value) (w : World) : Calls Try.prog 42 #[.slice p 0 cap, .int .i64 0, .int .i64 0, fv] w fun e w' => e = .returned (.tuple #[]) ∧ w' = w := by
  go_enter Try.func42, Try.ntmps42
  go_wp2
  refine wp_loop_rounds 1 ?_
  rw [rounds_succ]
  go_wp2
  go_end0
  exact ⟨rfl, rfl⟩
set_option maxRecDepth 100000 in
theorem stableI_none (p : Option Addr) (cap : Nat) (fv : Value) (w : World) : Calls Try.prog 36 #[.slice p 0 cap, .int .i64 0, fv] w fun e w' => e = .returned (.tuple #[]) ∧ w' = w := by
  have hi := insI_none
  go_enter Try.func36, Try.ntmps36
  go_wp2
  refine wp_loop_rounds 1 ?_
  rw [rounds_succ]
  go_wp2_with (first | (go_at_call 42; refine (hi _ _ _ _).mono ?_; rintro e w' ⟨rfl, rfl⟩) | go_in)
  refine wp_loop_rounds 1 ?_
  rw [rounds_succ]
  go_wp2
  (try simp only [Exit.inBlock, Exit.then]); first | refine bodyPost_end (results_none rfl _ _ _) rfl ?_ | refine bodyPost_ret (results_none rfl _ _ _) rfl ?_
  exact ⟨rfl, rfl⟩
set_option maxRecDepth 100000 in
theorem sortI_none (p : Option Addr) (cap : Nat) (fv : Value) (w : World) : Calls Try.prog 25 #[.slice p 0 cap, fv] w fun e w' => e = .returned (.tuple #[]) ∧ w' = w := by
  have hp := stableI_none
  go_enter Try.func25, Try.ntmps25
  go_wp2_with (first | (go_at_call 36; refine (hp _ _ _ _).mono ?_; rintro e w' ⟨rfl, rfl⟩) | fail)
  (try simp only [Exit.inBlock, Exit.then]); first | refine bodyPost_end (results_none rfl _ _ _) rfl ?_ | refine bodyPost_ret (results_none rfl _ _ _) rfl ?_
  exact ⟨rfl, rfl⟩

theorem sortD_any {w : World} {b g n c cap : Nat} {q : Option Addr} {l : List Int} (hn : n = l.length) (hn1 : n ≤ 1000) (hl : Nums w q l) (hlq : ∀ g' o, q = some ⟨g', o, none⟩ → l.length ≠ 0 → g' < g) (h1 : w.cell? ⟨b, 0, none⟩ = some (.slice q l.length c)) (hbg : b < g)
    (hr : w.ownsRow g 3 1 (.slice (some ⟨g, 0, none⟩) n cap) n (numf (fun j => (j : Int)) n)) :
    Calls Try.prog 25 #[.slice (some ⟨g, 0, none⟩) n cap, .func (.func 26) #[] #[.pointer (some ⟨b, 0, none⟩)]] w fun e w' => e = .returned (.tuple #[]) ∧ Below g w w' ∧ ∃ R, Perm0 n R ∧ Dwn l R ∧ Nums w' (some ⟨g, 0, none⟩) (R.map fun (i : Nat) => (i : Int)) := by
  have hgw : g < w.heap.size := (hr.lt g rfl).2
  by_cases h0 : n = 0
  · subst h0
    exact (sortI_none _ cap _ w).mono fun e w' ⟨he, hw⟩ => ⟨he, by rw [hw]; exact Below.refl _ _, [], Perm0.range 0, fun p q h1 h2 => by simp at h2, Or.inl rfl⟩
  · haveI : Inhabited (ThF n) := ⟨⟨0, by omega⟩⟩
    have hH : Holds (thV n) w g 0 (thA n) := by
      intro j hj
      rw [thA_size] at hj
      refine ⟨?_, owns_frz hr _⟩
      rw [Nat.zero_add, hr.cellAt j (by omega), numf_get hj, thA_get hj]
      rfl
    have C : SyC (thV n) (thC l n) (thT l n) 26 #[.pointer (some ⟨b, 0, none⟩)] g 0 (thA n) w := by
      refine ⟨fun args w => by rfl, fun m os dk hs x y => ?_, ⟨fun x => rfl, hH, hgw⟩, th_ord l n, by rw [thA_size]; omega⟩
      have hl2 : Nums (sortWorld (thV n) w g 0 m dk os) q l := by
        rcases hl with e | ⟨b', o', e, hA⟩
        · exact Or.inl e
        · refine Or.inr ⟨b', o', e, Nat.lt_of_lt_of_le hA.lt (swo_size _ _ _ _ _ _), fun j hj => ?_⟩
          rw [cell_of_heap (swo_old (thV n) w g m dk os hA.lt (by have := hlq b' o' e (by omega); show b' ≠ g; omega))]
          exact hA.c j hj
      have h12 : (sortWorld (thV n) w g 0 m dk os).cell? ⟨b, 0, none⟩ = some (.slice q l.length c) := by
        rw [cell_of_heap (swo_old (thV n) w g m dk os (k := b) (by omega) (by omega))]
        exact h1
      refine (down1_any hl2 (i := x.val) (k := y.val) (by rw [← hn]; exact x.property) (by rw [← hn]; exact y.property) h12).mono ?_
      rintro e w' ⟨he, k, hw⟩
      exact ⟨he, k, #[], by rw [hw, grow_empty]⟩
    have hs := sortStable_any cap C (th_stb l n)
    rw [thA_size] at hs
    refine hs.mono ?_
    rintro e w' ⟨he, d', S, hX⟩
    obtain ⟨hP, hT⟩ := hX.out
    have hsz : d'.size = n := by rw [hP.size, thA_size]
    obtain ⟨m, os, hw⟩ := S
    obtain ⟨f, gg, i1, i2, i3, i4⟩ := hP
    have hR : ∀ j, j < n → (((List.range n).map f).getD j 0) = (d'[j]!).val := fun j hj => by
      have hfn : f j < n := (inj_in i2 i4 ⟨Nat.zero_le _, hj⟩).2
      rw [i1.at_ j, thA_get hfn]
      simp [hj]
    refine ⟨he, ?_, (List.range n).map f, perm_of_f i2 i3 i4, fun p q hpq hq => ?_, ?_⟩
    · rw [hw]
      exact ⟨rfl, rfl, rfl, swo_size _ _ _ _ _ _, fun k hk => swo_old _ _ _ _ _ _ (by omega) (by omega)⟩
    · rw [List.length_map, List.length_range] at hq
      rw [hR q hq, hR p (by omega)]
      exact hT p q (Nat.zero_le _) hpq hq
    · refine Or.inr ⟨g, 0, rfl, by rw [hw]; exact Nat.lt_of_lt_of_le hgw (swo_size _ _ _ _ _ _), fun j hj => ?_⟩
      rw [List.length_map, List.length_map, List.length_range] at hj
      have h2 := (holds_sortWorld (thV n) w g 0 m (thA n) d' os hgw hH (by rw [hsz, thA_size]) j (by omega)).1
      rw [hw, h2]
      show some (Value.int .i64 ((d'[j]!).val : Int)) = _
      rw [← hR j hj]
      simp [nm, hj]
end Go.Proofs.Ytfnkboegbclnaaa
