/- ask.isSo's closure, and the labels that it is asked of, walked. -/
import Derived.Test.YtelepamnlpebgabDoorAkc
namespace Go.Proofs.YtelepamnlpebgabDoor
open Go.RowKit Go.Shelf Akm Ndm
set_option linter.unusedSectionVars false
set_option linter.unusedVariables false

/-- A label is what an ask wants. -/
def lsB (k : Int) (key val lk lv : ByteArray) : Bool := (lk.toList == key.toList) && ((k == 1) || (lv.toList == val.toList))
theorem ret_bb {a b : Bool} (h : a = b) : Ending.returned (.bool a) = .returned (.bool b) := by rw [h]
/-- Labels as they lie in memory. -/
def Lbs (w : World) (p : Option Addr) (L : List (ByteArray × ByteArray)) : Prop := L = [] ∨ ∃ g o, p = some ⟨g, o, none⟩ ∧ g < w.heap.size ∧ ∀ j x, L[j]? = some x → w.cell? ⟨g, o + j * 2, none⟩ = some (.string x.1) ∧ w.cell? ⟨g, o + j * 2 + 1, none⟩ = some (.string x.2)
theorem Lbs.below {w w' : World} {p : Option Addr} {L : List (ByteArray × ByteArray)} (h : Lbs w p L) (hb : Below w.heap.size w w') : Lbs w' p L := by
  refine h.imp id ?_
  rintro ⟨g, o, h1, h2, h3⟩
  exact ⟨g, o, h1, Nat.lt_of_lt_of_le h2 hb.size, fun j x hx => ⟨(hb.cell (p := ⟨g, o + j * 2, none⟩) h2).trans (h3 j x hx).1, (hb.cell (p := ⟨g, o + j * 2 + 1, none⟩) h2).trans (h3 j x hx).2⟩⟩

set_option maxHeartbeats 2000000 in
set_option maxRecDepth 100000 in
theorem so1_any (k : Int) (key val : ByteArray) (n : Int) (p : Option Addr) (m cap gx : Nat) (lk lv : ByteArray) (w : World) (hb : w.heap[gx]? = some (.cells #[.int .i64 k, .string key, .string val, .int .i64 n, .slice p m cap] 25 (0, 0))) : Calls Tryd.prog 77 #[.agg #[.string lk, .string lv], .pointer (some ⟨gx, 0, none⟩)] w fun e w' => e = .returned (.bool (lsB k key val lk lv)) ∧ Below w.heap.size w w' := by
  have hbA : Below w.heap.size w (w.alloc (.cells #[.string lk, .string lv] 67)) := (Below.refl _ _).alloc (Nat.le_refl _) _
  have hbAH : Hid (Below w.heap.size w (w.alloc (.cells #[.string lk, .string lv] 67))) := hbA
  obtain ⟨z0, z1, z2, z3, z4⟩ := box5 ((hbA.block gx (Array.getElem?_eq_some_iff.1 hb).1).trans hb)
  unfold lsB
  clear hb hbA z3 z4
  rcases Bool.eq_false_or_eq_true (lk.toList == key.toList) with b1 | b1 <;> rcases Bool.eq_false_or_eq_true (k == 1) with b2 | b2 <;> rcases Bool.eq_false_or_eq_true (lv.toList == val.toList) with b3 | b3
  all_goals
    rw [b1, b2, b3]
    go_enter Tryd.func77, Tryd.ntmps77
    go_wp2
    go_ret
    exact ⟨by first | rfl | simp, hbAH.out⟩

theorem any_snoc (L : List (ByteArray × ByteArray)) (q : ByteArray × ByteArray → Bool) {j : Nat} {x : ByteArray × ByteArray} (hx : L[j]? = some x) : (L.take (j + 1)).any q = ((L.take j).any q || q x) := by
  have hj := (List.getElem?_eq_some_iff.1 hx).1
  rw [List.take_succ_eq_append_getElem hj, List.any_append, (List.getElem?_eq_some_iff.1 hx).2]
  simp
theorem any_take {L : List (ByteArray × ByteArray)} {q : ByteArray × ByteArray → Bool} {j : Nat} (h : (L.take j).any q = true) : L.any q = true := by
  rw [List.any_eq_true] at h ⊢
  obtain ⟨x, hx, hq⟩ := h
  exact ⟨x, List.mem_of_mem_take hx, hq⟩

set_option maxHeartbeats 2000000 in
set_option maxRecDepth 100000 in
theorem indexL_any (k : Int) (key val : ByteArray) (n : Int) (p : Option Addr) (m cap gx : Nat) (pl : Option Addr) (L : List (ByteArray × ByteArray)) (ln cl : Nat) (hln : L.length = ln) (hLi : (ln : Int) ≤ 9223372036854775807) (w : World) (hb : w.heap[gx]? = some (.cells #[.int .i64 k, .string key, .string val, .int .i64 n, .slice p m cap] 25 (0, 0))) (hL : Lbs w pl L) :
    Calls Tryd.prog 91 #[.slice pl ln cl, .func (.func 77) #[] #[.pointer (some ⟨gx, 0, none⟩)]] w fun e w' => (∃ r : Int, e = .returned (.int .i64 r) ∧ Hid (decide (0 ≤ r) = L.any fun x => lsB k key val x.1 x.2)) ∧ Below w.heap.size w w' := by
  have hLH : Hid (Lbs w pl L) := hL
  have hbH : Hid (w.heap[gx]? = some (.cells #[.int .i64 k, .string key, .string val, .int .i64 n, .slice p m cap] 25 (0, 0))) := hb
  have hlnH : Hid (L.length = ln) := hln
  have hso := fun lk lv w1 h => so1_any k key val n p m cap gx lk lv w1 h
  obtain ⟨q, hq⟩ : ∃ q : ByteArray × ByteArray → Bool, q = fun x => lsB k key val x.1 x.2 := ⟨_, rfl⟩
  have hqe : ∀ lk lv, lsB k key val lk lv = q (lk, lv) := fun lk lv => by rw [hq]
  simp only [hqe] at hso
  have hqH : Hid (∀ x, q x = lsB k key val x.1 x.2) := fun x => by rw [hq]
  have hfin : Hid (∀ r : Int, decide (0 ≤ r) = L.any q → decide (0 ≤ r) = L.any fun x => lsB k key val x.1 x.2) := fun r h => by rw [h, hq]
  clear hL hb hln hq hqe
  go_enter Tryd.func91, Tryd.ntmps91
  go_wp2
  go_loopw [8] (fun iv wr => ∃ j : Nat, iv = .int .i64 j ∧ j ≤ ln ∧ Hid ((L.take j).any q = false) ∧ Hid (Below w.heap.size w wr)) (fun iv _ => ln - (intOf iv).toNat)
  case atStart => exact ⟨0, rfl, Nat.zero_le _, rfl, Below.refl _ _⟩
  case round =>
    obtain ⟨j, rfl, hj, hany, hbl⟩ := hrel
    by_cases hjl : j < ln
    · obtain ⟨x, hx⟩ : ∃ x, L[j]? = some x := ⟨L[j]'(by rw [hlnH.out]; exact hjl), List.getElem?_eq_getElem _⟩
      obtain ⟨g, o, rfl, hg, hc⟩ := hLH.out.resolve_left (fun e => by have := hlnH.out; rw [e] at this; simp at this; omega)
      have q0 := (hbl.out.cell (p := ⟨g, o + j * 2, none⟩) hg).trans (hc j x hx).1
      have q1 := (hbl.out.cell (p := ⟨g, o + j * 2 + 1, none⟩) hg).trans (hc j x hx).2
      have hbx := (hbl.out.block gx (Array.getElem?_eq_some_iff.1 hbH.out).1).trans hbH.out
      have hcall := hso x.1 x.2 wr hbx
      have hsn : Hid ((L.take (j + 1)).any q = q x) := by show _ = _; rw [any_snoc L q hx, hany.out]; rfl
      have hat : Hid (q x = true → L.any q = true) := fun h => any_take (j := j + 1) (by rw [hsn.out]; exact h)
      rw [show (x.1, x.2) = x from rfl] at hcall
      generalize q x = b at *
      clear hx hc hso hbx
      cases b with
      | true =>
        go_wp2_with (first
          | (go_at_call 77; refine hcall.mono ?_; rintro e w5 ⟨rfl, hb5⟩; clear hcall)
          | go_in)
        go_ret
        exact ⟨⟨(j : Int), rfl, hfin.out _ (by rw [show L.any q = true by first | exact hat.out rfl | exact hat.out trivial | exact hat.out]; exact decide_eq_true (by omega))⟩, hbl.out.trans (hb5.mono hbl.out.size)⟩
      | false =>
        go_wp2_with (first
          | (go_at_call 77; refine hcall.mono ?_; rintro e w5 ⟨rfl, hb5⟩; clear hcall)
          | go_in)
        refine ⟨⟨j + 1, by first | rfl | simp, by omega, hsn, hbl.out.trans (hb5.mono hbl.out.size)⟩, ?_⟩
        simp [intOf]
        omega
    · have hall : L.any q = false := by
        have := hany.out
        rw [List.take_of_length_le (by rw [hlnH.out]; omega)] at this
        exact this
      have hallH : Hid (L.any q = false) := hall
      clear hall hso
      go_wp2
      go_ret
      exact ⟨⟨-1, rfl, hfin.out _ (by rw [hallH.out]; rfl)⟩, hbl.out⟩

set_option maxHeartbeats 1000000 in
set_option maxRecDepth 100000 in
theorem containsL_any (k : Int) (key val : ByteArray) (n : Int) (p : Option Addr) (m cap gx : Nat) (pl : Option Addr) (L : List (ByteArray × ByteArray)) (ln cl : Nat) (hln : L.length = ln) (hLi : (ln : Int) ≤ 9223372036854775807) (w : World) (hb : w.heap[gx]? = some (.cells #[.int .i64 k, .string key, .string val, .int .i64 n, .slice p m cap] 25 (0, 0))) (hL : Lbs w pl L) (r0 : Bool) (hr0 : Hid ((L.any fun x => lsB k key val x.1 x.2) = r0)) :
    Calls Tryd.prog 76 #[.slice pl ln cl, .func (.func 77) #[] #[.pointer (some ⟨gx, 0, none⟩)]] w fun e w' => e = .returned (.bool r0) ∧ Below w.heap.size w w' := by
  have hix := indexL_any k key val n p m cap gx pl L ln cl hln hLi w hb hL
  clear hln hLi hb hL
  go_enter Tryd.func76, Tryd.ntmps76
  go_wp2_with (first
    | (go_at_call 91; refine hix.mono ?_; rintro e w3 ⟨⟨r, rfl, hr⟩, hb3⟩; clear hix)
    | go_in)
  go_ret
  exact ⟨ret_bb (by rw [← hr0.out]; exact hr.out), hb3⟩
end Go.Proofs.YtelepamnlpebgabDoor
