/- Package list: slices.Clone at numbers, least, Least. -/
import Derived.Test.YthfpdbogbmccjaaJt
namespace Go.Proofs.Ythfpdbogbmccjaa
open Go.RowKit
set_option linter.unusedSectionVars false
set_option linter.unusedVariables false

set_option maxRecDepth 100000 in
theorem clone_any {w : World} {B g n cap : Nat} {E : Nat → Int} (h : w.ownsRow B 2 1 (.slice (some ⟨g, 0, none⟩) n cap) n (numf E n)) (hn : n ≤ 1000) :
    Calls Try.prog 41 #[.slice (some ⟨g, 0, none⟩) n cap] w fun e w' => ∃ (p : Option Addr) (c : Nat), e = .returned (.slice p n c) ∧ w'.ownsRow w.heap.size 2 1 (.slice p n c) n (numf E n) ∧ Below w.heap.size w w' := by
  have hnil := fun (w : World) (a : Option Addr) (n c : Nat) => Lib.run_eql_slice_nil (P := Try.prog) w 22 2 a n c 0 0 Try.underlying22
  have hal : (w.alloc (.cells #[] 2)).ownsRow w.heap.size 2 1 (.slice (some ⟨w.heap.size, 0, none⟩) 0 0) 0 [] := ⟨rfl, Or.inr ⟨w.heap.size, 0, #[], rfl, Nat.le_refl _, heap_alloc_new w _, Nat.le_refl _, by unfold maxLen; omega, rfl, rfl⟩⟩
  have hcl : Hid (∀ j u, (numf E n)[j]? = some u → (w.alloc (.cells #[] 2)).cell? ((⟨g, 0, none⟩ : Addr).add j) = some u) := fun j u hu => by
    have hj : j < n := by have := (List.getElem?_eq_some_iff.1 hu).1; rwa [numf_len] at this
    have := h.cellAt j (by omega)
    rw [hu] at this
    rw [Addr.add_lit, Nat.zero_add]
    exact cell_alloc this _
  have h1H : Hid (∀ u ∈ numf E n, u.oneCell' = true) := fun u hu => by
    obtain ⟨j, _, rfl⟩ := List.mem_map.1 hu
    rfl
  have hn' : Hid (n ≤ 1000) := hn
  have hbl : Hid (Below w.heap.size w (w.alloc (.cells #[] 2))) := (Below.refl _ _).alloc (Nat.le_refl _) _
  have hlen : Hid ((numf E n).length = n * 1) := by show _ = _; rw [numf_len, Nat.mul_one]
  clear h hn
  go_enter Try.func41, Try.ntmps41
  go_wp2_with (first
    | (at_builtin; obtain ⟨i0, hi9, hz0, hz1, hz2⟩ := info_parts info_i64; refine wpList_append_own_at _ rfl _ _ 22 rfl w.heap.size 2 i0 (.int .i64 0) 1 8 Try.underlying22 hi9 hz0 hz1 hz2 rfl (by decide) _ 0 [] rfl hal ⟨g, 0, none⟩ n cap (numf E n) rfl hlen.out hcl.out h1H.out (by unfold maxLen; have := hn'.out; omega) (by have := hn'.out; omega) (by simp) ?_; intro v' w2 hown2 hgrow2 hnil2 hloc2; clear hi9 hz0 hz1 hz2 hnil2)
    | go_in)
  rw [Nat.zero_add, List.nil_append] at hown2
  obtain ⟨p', c', rfl⟩ := own_form hown2
  go_ret
  have hg3 : (w.alloc (.cells #[] 2)).grownBy w2 (some w.heap.size) := hgrow2
  refine ⟨p', c', rfl, hown2, ⟨hg3.os, hg3.tape, hg3.output, ?_, fun k hk => ?_⟩⟩
  · have := hg3.size; simp at this; omega
  · rw [hg3.block k (by simp; omega) (fun e => by cases e; omega), Below.heap_alloc _ _ _ hk]

theorem and_i64 (a b : Nat) (ha : a < 1000) (hb : b < 1000) : bits .and .i64 (a : Int) (b : Int) = ((a &&& b : Nat) : Int) := by
  have hx : a &&& b ≤ b := Nat.and_le_right
  have h1 : (BitVec.ofInt 64 (a : Int)).toNat = a := by
    rw [BitVec.ofInt_natCast, BitVec.toNat_ofNat]; exact Nat.mod_eq_of_lt (by omega)
  have h2 : (BitVec.ofInt 64 (b : Int)).toNat = b := by
    rw [BitVec.ofInt_natCast, BitVec.toNat_ofNat]; exact Nat.mod_eq_of_lt (by omega)
  show IntKind.i64.wrap ((BitVec.ofInt 64 (a : Int) &&& BitVec.ofInt 64 (b : Int)).toNat : Int) = _
  rw [BitVec.toNat_and, h1, h2, IntKind.wrap_i64]
  omega

/-- What is told of a set, on h hands. -/
structure Bst (l : List Int) (h S : Nat) (v : Int) : Prop where
  way : Way l h S v
  lo : Lo l h S v
  b : 0 ≤ v ∧ v ≤ 9000000000
/-- Within the round of a set: what has come so far. -/
structure Bin (l : List Int) (h S p : Nat) (E : Nat → Int) (v : Int) : Prop where
  way : Way l (h + 1) S v
  old : v ≤ E S
  all : ∀ q, q ≠ 0 → Sub q S → p < q → v ≤ max (aln l q) (E (S - q))
  b : 0 ≤ v ∧ v ≤ 9000000000
theorem Bin.start {l : List Int} (hl : ∀ x ∈ l, 0 ≤ x) {h S : Nat} {E : Nat → Int} (hh : 1 ≤ h) (hE : Bst l h S (E S)) : Bin l h S S E (E S) :=
  ⟨hE.way.up hl hh, Int.le_refl _, fun q _ hs hq => by have := hs.le; omega, hE.b⟩
theorem Bin.step {l : List Int} {h S p : Nat} {E : Nat → Int} {v : Int} (hb : Bin l h S p E v) (hS : S < 2 ^ l.length) (hp : Sub p S) (hp0 : p ≠ 0) (hE : Bst l h (S - p) (E (S - p))) (ha : 0 ≤ aln l p) : Bin l h S ((p - 1) &&& S) E (min v (max (aln l p) (E (S - p)))) := by
  refine ⟨?_, by have := hb.old; omega, fun q hq hs hlt => ?_, by have := hb.b; have := hE.b; omega⟩
  · by_cases e : v ≤ max (aln l p) (E (S - p))
    · rw [show min v (max (aln l p) (E (S - p))) = v by omega]; exact hb.way
    · rw [show min v (max (aln l p) (E (S - p))) = max (aln l p) (E (S - p)) by omega]
      exact Way.part hS hp hE.way
  · by_cases e : q < p
    · have := sub_next p p q S (Nat.le_refl _) hp hs e; omega
    · by_cases e2 : q = p
      · subst e2; omega
      · have := hb.all q hq hs (by omega); omega
theorem Bin.done {l : List Int} {h S : Nat} {E : Nat → Int} {v : Int} (hb : Bin l h S 0 E v) (hS : S < 2 ^ l.length) (hh : 1 ≤ h) (hE : ∀ q, q ≤ S → Bst l h q (E q)) : Bst l (h + 1) S v :=
  ⟨hb.way, Lo.next hS hh (fun q hq => (hE q hq).lo) hb.old (fun q hq hs => hb.all q hq hs (by omega)), hb.b⟩
theorem Bst.one {l : List Int} (hl : ∀ x ∈ l, 0 ≤ x ∧ x ≤ 1000000000) (hn : l.length ≤ 9) (S : Nat) : Bst l 1 S (aln l S) :=
  ⟨way_one l S, lo_one l S, by have := aln_bnd hl S; omega⟩
theorem Bst.zero {l : List Int} (hl : ∀ x ∈ l, 0 ≤ x) {h : Nat} {v : Int} (hh : 1 ≤ h) (hb : Bst l h 0 v) : Bst l (h + 1) 0 v := by
  refine ⟨hb.way.up hl hh, fun f hf T hT => ?_, hb.b⟩
  refine hb.lo (fun _ => 0) (fun i _ => hh) T fun b hb2 => ?_
  refine Int.le_trans (Int.le_of_eq ?_) (hT 0 (by omega))
  exact (sumF_zero fun i _ => by simp).trans (sumF_zero fun i _ => by simp).symm
end Go.Proofs.Ythfpdbogbmccjaa
