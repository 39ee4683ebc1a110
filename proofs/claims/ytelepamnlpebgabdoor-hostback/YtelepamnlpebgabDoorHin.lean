/- Rows of numbers that are read: slices.Index, Contains, IndexFunc at ints. -/
import Derived.Test.YtelepamnlpebgabDoorHho
import Derived.Test.YtelepamnlpebgabDoorNgd
namespace Go.Proofs.YtelepamnlpebgabDoor
open Go.RowKit Go.Shelf Akm Ndm
set_option linter.unusedSectionVars false
set_option linter.unusedVariables false

/-- Numbers as they lie in memory. -/
def IntR (w : World) (p : Option Addr) (F : List Nat) : Prop := F = [] ∨ ∃ g, p = some ⟨g, 0, none⟩ ∧ g < w.heap.size ∧ ∀ (j x : Nat), F[j]? = some x → w.cell? ⟨g, j, none⟩ = some (.int .i64 (x : Int))
theorem IntR.below {w w' : World} {p : Option Addr} {F : List Nat} (h : IntR w p F) (hb : Below w.heap.size w w') : IntR w' p F := by
  refine h.imp id ?_
  rintro ⟨g, h1, h2, h3⟩
  exact ⟨g, h1, Nat.lt_of_lt_of_le h2 hb.size, fun j x hx => (hb.cell (p := ⟨g, j, none⟩) h2).trans (h3 j x hx)⟩
theorem IntR.of {w : World} {B : Nat} {p : Option Addr} {c : Nat} {F : List Nat} (h : w.ownsRow B 3 1 (.slice p F.length c) F.length (intsH F)) : IntR w p F := by
  by_cases e : F = []
  · exact Or.inl e
  · right
    have hl : 0 < F.length := List.length_pos_iff.2 e
    obtain ⟨n, hn⟩ : ∃ n, F.length = n + 1 := ⟨F.length - 1, by omega⟩
    have h2 := h
    rw [hn] at h2
    obtain ⟨g, c2, e2⟩ := form_succ h2
    simp only [Value.slice.injEq] at e2
    obtain ⟨rfl, _, _⟩ := e2
    refine ⟨g, rfl, (h.lt g rfl).2, fun j x hx => ?_⟩
    have hj := (List.getElem?_eq_some_iff.1 hx).1
    rw [h.cellAt j (by omega)]
    unfold intsH
    rw [List.getElem?_map, hx]
    rfl
/-- A number is among some. -/
def mI (F : List Nat) (v : Int) : Bool := F.any fun x => ((x : Int) == v)
theorem mI_snoc {F : List Nat} {j x : Nat} {v : Int} (hx : F[j]? = some x) : mI (F.take (j + 1)) v = (mI (F.take j) v || ((x : Int) == v)) := by
  have hj := (List.getElem?_eq_some_iff.1 hx).1
  unfold mI
  rw [List.take_succ_eq_append_getElem hj, List.any_append, (List.getElem?_eq_some_iff.1 hx).2]
  simp
theorem mI_mem {F : List Nat} {x : Nat} : mI F (x : Int) = true ↔ x ∈ F := by
  unfold mI
  rw [List.any_eq_true]
  constructor
  · rintro ⟨y, hy, e⟩
    have : (y : Int) = (x : Int) := by simpa using e
    have : y = x := by omega
    rwa [← this]
  · intro h
    exact ⟨x, h, by simp⟩

set_option maxHeartbeats 2000000 in
set_option maxRecDepth 100000 in
theorem indexI_any (F : List Nat) (v : Int) (p : Option Addr) (n c : Nat) (hn : F.length = n) (h30 : n ≤ 30) (w : World) (h : IntR w p F) : Calls Tryd.prog 60 #[.slice p n c, .int .i64 v] w fun e w' => (∃ r : Int, e = .returned (.int .i64 r) ∧ Hid (decide (0 ≤ r) = mI F v)) ∧ w' = w := by
  have hH : Hid (IntR w p F) := h
  have hnH : Hid (F.length = n) := hn
  have h30i : (n : Int) ≤ 30 := by omega
  clear h hn h30
  go_enter Tryd.func60, Tryd.ntmps60
  go_wp2
  go_loopw [8] (fun iv wr => ∃ j : Nat, iv = .int .i64 j ∧ j ≤ n ∧ Hid (mI (F.take j) v = false) ∧ wr = w) (fun iv _ => n - (intOf iv).toNat)
  case atStart => exact ⟨0, rfl, Nat.zero_le _, rfl, rfl⟩
  case round =>
    obtain ⟨j, rfl, hj, hany, rfl⟩ := hrel
    by_cases hjl : j < n
    · obtain ⟨x, hx⟩ : ∃ x, F[j]? = some x := ⟨F[j]'(by rw [hnH.out]; exact hjl), List.getElem?_eq_getElem _⟩
      obtain ⟨g, rfl, hg, hc⟩ := hH.out.resolve_left (fun e => by have := hnH.out; rw [e] at this; simp at this; omega)
      have z0 := hc j x hx
      have hlt : (j : Int) < (n : Int) := by omega
      have hjH : Hid (j < n) := hjl
      have hsn : Hid (mI (F.take (j + 1)) v = ((x : Int) == v)) := by show _ = _; rw [mI_snoc hx, hany.out]; rfl
      have hat : Hid (((x : Int) == v) = true → mI F v = true) := by
        intro hh
        have e : (x : Int) = v := by simpa using hh
        rw [← e]
        exact mI_mem.2 (List.mem_of_getElem? hx)
      clear hx hc hj hjl hany
      by_cases hxv : v = (x : Int)
      · have hF : Hid (mI F v = true) := hat.out (by rw [hxv]; simp)
        have b1 : (v == (x : Int)) = true := by simpa using hxv
        clear hat hsn hxv
        go_wp2
        go_ret
        exact ⟨⟨(j : Int), rfl, by show decide _ = _; rw [hF.out]; exact decide_eq_true (by omega)⟩, rfl⟩
      · have hF : Hid (mI (F.take (j + 1)) v = false) := by
          show _ = _
          rw [hsn.out]
          simp
          omega
        have b1 : (v == (x : Int)) = false := by simpa using hxv
        clear hat hsn hxv
        go_wp2
        refine ⟨⟨j + 1, by first | rfl | simp, hjH.out, hF, by first | rfl | trivial⟩, ?_⟩
        have := hjH.out
        simp [intOf]
        omega
    · have hall : Hid (mI F v = false) := by
        have := hany.out
        rw [List.take_of_length_le (by rw [hnH.out]; omega)] at this
        exact this
      have hlt : ¬ (j : Int) < (n : Int) := by omega
      go_wp2
      go_ret
      exact ⟨⟨-1, rfl, by show decide _ = _; rw [hall.out]; rfl⟩, rfl⟩
theorem containsI_any (F : List Nat) (v : Int) (p : Option Addr) (n c : Nat) (hn : F.length = n) (h30 : n ≤ 30) (w : World) (h : IntR w p F) (r : Bool) (hr : Hid (mI F v = r)) : Calls Tryd.prog 30 #[.slice p n c, .int .i64 v] w fun e w' => e = .returned (.bool r) ∧ w' = w := by
  have hi := indexI_any F v p n c hn h30 w h
  clear hn h30 h
  go_enter Tryd.func30, Tryd.ntmps30
  go_wp2_with (first
    | (go_at_call 60; refine hi.mono ?_; rintro e w3 ⟨⟨z, rfl, hz⟩, hw3⟩; have hw4 := hw3.symm; subst hw4; clear hi)
    | go_in)
  go_ret
  exact ⟨ret_bb (by rw [← hr.out]; exact hz.out), rfl⟩
end Go.Proofs.YtelepamnlpebgabDoor
