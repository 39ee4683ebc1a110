/- Numbers that are handed in; the first calls of package path: isNoSpan, the library's IndexFunc and ContainsFunc with it, steps. -/
import Derived.Test.YthfpdbogbmccjaaDoorPm
import Derived.Test.YthfpdbogbmccjaaDoorGdl
import Derived.Test.YthfpdbogbmccjaaDoorGor
namespace Go.Proofs.YthfpdbogbmccjaaDoor
open Go.RowKit Gm Pm
set_option linter.unusedSectionVars false
set_option linter.unusedVariables false

def nm (d : List Int) (i : Nat) : Int := d.getD i 0
theorem nm_get {d : List Int} {k : Nat} (hk : k < d.length) : nm d k = d[k] := by simp [nm, hk]
theorem nm_mem {d : List Int} {k : Nat} (hk : k < d.length) : nm d k ∈ d := by rw [nm_get hk]; exact List.getElem_mem hk
/-- A slice of numbers lies somewhere. -/
structure NumAt (w : World) (b o : Nat) (d : List Int) : Prop where
  lt : b < w.heap.size
  c : ∀ j, j < d.length → w.cell? ⟨b, o + j, none⟩ = some (.int .i64 (nm d j))
def Nums (w : World) (q : Option Addr) (d : List Int) : Prop := d.length = 0 ∨ ∃ b o, q = some ⟨b, o, none⟩ ∧ NumAt w b o d
theorem NumAt.below {w w' : World} {b o : Nat} {d : List Int} {B : Nat} (h : NumAt w b o d) (hb : Below B w w') (hB : b < B) : NumAt w' b o d :=
  ⟨Nat.lt_of_lt_of_le h.lt hb.size, fun j hj => (hb.cell (p := ⟨b, o + j, none⟩) hB).trans (h.c j hj)⟩
theorem Nums.below {w w' : World} {q : Option Addr} {d : List Int} (h : Nums w q d) {B : Nat} (hb : Below B w w') (hB : w.heap.size ≤ B) : Nums w' q d := by
  rcases h with h0 | ⟨b, o, e, hA⟩
  · exact Or.inl h0
  · exact Or.inr ⟨b, o, e, hA.below hb (Nat.lt_of_lt_of_le hA.lt hB)⟩
theorem take_nm {d : List Int} {j : Nat} (hj : j < d.length) : d.take (j + 1) = d.take j ++ [nm d j] := by
  rw [nm_get hj, List.take_append_getElem]
/-- A row of numbers of one's own. -/
def numf (E : Nat → Int) (n : Nat) : List Value := (List.range n).map fun (j : Nat) => .int .i64 (E j)
theorem numf_len (E : Nat → Int) (n : Nat) : (numf E n).length = n := by simp [numf]
theorem numf_get {E : Nat → Int} {n j : Nat} (h : j < n) : (numf E n)[j]? = some (.int .i64 (E j)) := by simp [numf, h]
theorem numf_congr {E E' : Nat → Int} {n : Nat} (h : ∀ j, j < n → E j = E' j) : numf E n = numf E' n := by
  unfold numf
  refine List.map_congr_left fun j hj => ?_
  rw [h j (by simpa using hj)]
theorem numf_zero (N : Nat) : numf (fun _ => 0) N = List.replicate N (.int .i64 0) := by
  apply List.ext_getElem?
  intro k
  by_cases hk : k < N
  · rw [numf_get hk]; simp [hk]
  · rw [List.getElem?_eq_none (by rw [numf_len]; omega), List.getElem?_eq_none (by simp; omega)]
theorem numf_set {E : Nat → Int} {n j : Nat} {v : Int} : (numf E n).set j (.int .i64 v) = numf (fp E j v) n := by
  apply List.ext_getElem?
  intro k
  rw [List.getElem?_set]
  by_cases hk : k < n
  · rw [numf_get hk, numf_get hk, numf_len]
    by_cases e : j = k
    · subst e; simp [hk, fp]
    · rw [if_neg e, fp_ne (fun x => e x.symm)]
  · rw [List.getElem?_eq_none (by rw [numf_len]; omega), List.getElem?_eq_none (by rw [numf_len]; omega)]
    simp [numf_len]
    omega
theorem row_num {w : World} {B : Nat} {t : TypeId} {p : Option Addr} {E : Nat → Int} {n c : Nat} (h : w.ownsRow B t 1 (.slice p n c) n (numf E n)) {k : Nat} (hk : k < n) : ∃ g, p = some ⟨g, 0, none⟩ ∧ w.cell? ⟨g, k, none⟩ = some (.int .i64 (E k)) ∧ B ≤ g := by
  rcases h.2 with ⟨_, h0⟩ | ⟨g, cap, cur, hv, hB, _⟩
  · omega
  · obtain ⟨rfl, rfl⟩ : p = some ⟨g, 0, none⟩ ∧ c = cap := by simpa using hv
    exact ⟨g, rfl, by rw [h.cellAt k (by omega), numf_get hk], hB⟩
theorem info_i64 : (Tryd.prog.info? 2).map (fun i => (i.zero, i.size, i.bytes)) = some (some (.int .i64 0), 1, 8) := by kernel_rfl
theorem info_row : (Tryd.prog.info? 47).map (fun i => (i.zero, i.size, i.bytes)) = some (some (.slice none 0 0), 1, 24) := by kernel_rfl

/-- Whether a number is a span. -/
def spB (x : Int) : Bool := decide (0 ≤ x ∧ x ≤ 1000000000)
theorem noSpan_any (x : Int) (w : World) : Calls Tryd.prog 20 #[.int .i64 x] w fun e w' => e = .returned (.bool (!spB x)) ∧ w' = w := by
  by_cases h0 : x < 0
  · have e : spB x = false := by simp [spB]; omega
    rw [e]
    clear e
    go_enter Tryd.func20, Tryd.ntmps20
    go_wp2
    go_ret
    exact ⟨by first | rfl | simp, rfl⟩
  by_cases h1 : 1000000000 < x
  · have e : spB x = false := by simp [spB]; omega
    rw [e]
    clear e
    go_enter Tryd.func20, Tryd.ntmps20
    go_wp2
    go_ret
    exact ⟨by first | rfl | simp | (simp; omega), rfl⟩
  have e : spB x = true := by simp [spB]; omega
  rw [e]
  clear e
  go_enter Tryd.func20, Tryd.ntmps20
  go_wp2
  go_ret
  exact ⟨by first | rfl | simp | (simp; omega), rfl⟩
def durB (d : List Int) : Bool := d.all spB

set_option maxHeartbeats 1000000 in
set_option maxRecDepth 100000 in
theorem indexf_d {w : World} {q : Option Addr} {d : List Int} {c : Nat} (h : Nums w q d) (hlen : d.length ≤ 4000) :
    Calls Tryd.prog 33 #[.slice q d.length c, .func (.func 20) #[] #[]] w fun e w' => (∃ z : Int, e = .returned (.int .i64 z) ∧ (0 ≤ z ↔ durB d = false)) ∧ w' = w := by
  have hlen' : Hid (d.length ≤ 4000) := hlen
  have hns := fun x => noSpan_any x w
  clear hlen
  go_enter Tryd.func33, Tryd.ntmps33
  go_wp2
  go_loopw [8] (fun iv wr => ∃ j : Nat, iv = .int .i64 j ∧ j ≤ d.length ∧ Hid (durB (d.take j) = true) ∧ wr = w)
    (fun iv _ => d.length - (intOf iv).toNat)
  case atStart => exact ⟨0, rfl, Nat.zero_le _, rfl, rfl⟩
  case round =>
    obtain ⟨j, rfl, hjl, hall, rfl⟩ := hrel
    by_cases hj : j < d.length
    · rcases h with h0 | ⟨b, o, rfl, hA⟩
      · omega
      have z0 := hA.c j hj
      have hns1 := hns (nm d j)
      have hji : (j : Int) < (d.length : Int) := by omega
      have hj2 : Hid (j ≤ 100000) := by have := hlen'.out; show _ ≤ _; omega
      have hyes : Hid (spB (nm d j) = true → durB (d.take (j + 1)) = true) := fun h2 => by
        show List.all _ _ = true
        rw [take_nm hj, List.all_append, show List.all (d.take j) spB = true from hall.out]
        simp [h2]
      have hno : Hid (spB (nm d j) = false → durB d = false) := fun h2 => by
        show List.all _ _ = false
        rw [List.all_eq_false]
        exact ⟨_, nm_mem hj, by simp [h2]⟩
      generalize spB (nm d j) = s at *
      generalize nm d j = x at *
      clear hA hall hns
      cases s with
      | true =>
        have hy2 : Hid (durB (d.take (j + 1)) = true) := hyes.out rfl
        clear hyes hno
        go_wp2_with (first
          | (go_at_call 20; refine hns1.mono ?_; rintro e w' ⟨rfl, hw'⟩; have hw'' := hw'.symm; subst hw''; clear hns1)
          | go_in)
        refine ⟨⟨j + 1, ?_, hj, hy2, by first | rfl | trivial⟩, ?_⟩
        · first | exact int_succ j | exact int_wsucc hj2.out
        · first | exact meas_1 hj | exact meas_w hj hj2.out
      | false =>
        have hn2 : Hid (durB d = false) := hno.out rfl
        clear hyes hno
        go_wp2_with (first
          | (go_at_call 20; refine hns1.mono ?_; rintro e w' ⟨rfl, hw'⟩; have hw'' := hw'.symm; subst hw''; clear hns1)
          | go_in)
        go_ret
        exact ⟨⟨_, rfl, fun _ => hn2.out, fun _ => by omega⟩, rfl⟩
    · have hji : ¬ (j : Int) < (d.length : Int) := by omega
      have e : j = d.length := by omega
      subst e
      have hy2 : Hid (durB d = true) := by have := hall.out; rwa [List.take_length] at this
      clear hall hns h
      go_wp2
      go_ret
      exact ⟨⟨_, rfl, fun h => absurd h (by omega), fun h => by rw [hy2.out] at h; cases h⟩, rfl⟩

set_option maxRecDepth 100000 in
theorem containsf_d {w : World} {q : Option Addr} {d : List Int} {c : Nat} (h : Nums w q d) (hlen : d.length ≤ 4000) :
    Calls Tryd.prog 19 #[.slice q d.length c, .func (.func 20) #[] #[]] w fun e w' => e = .returned (.bool (!durB d)) ∧ w' = w := by
  have hi := indexf_d (c := c) h hlen
  clear h hlen
  go_enter Tryd.func19, Tryd.ntmps19
  go_wp2_with (first | (go_at_call 33; refine hi.mono ?_; rintro e w' ⟨⟨z, rfl, hz⟩, hw'⟩; have hw'' := hw'.symm; subst hw''; have hzH : Hid (0 ≤ z ↔ durB d = false) := hz; clear hz hi) | go_in)
  go_ret
  refine ⟨ret_b ?_, rfl⟩
  by_cases h0 : 0 ≤ z
  · rw [hzH.out.1 h0]; simpa using h0
  · have : durB d = true := by
      cases e : durB d
      · exact absurd (hzH.out.2 e) h0
      · rfl
    rw [this]; simpa using h0
end Go.Proofs.YthfpdbogbmccjaaDoor
