/- host.checkLabels, walked. -/
import Derived.Test.YtelepamnlpebgabDoorHom
namespace Go.Proofs.YtelepamnlpebgabDoor
open Go.RowKit Go.Shelf Akm Ndm
set_option linter.unusedSectionVars false
set_option linter.unusedVariables false

set_option maxHeartbeats 2000000 in
set_option maxRecDepth 100000 in
theorem lk1_any (key val : ByteArray) (gx : Nat) (lk lv : ByteArray) (w : World) (hb : w.heap[gx]? = some (.cells #[.string key, .string val] 67 (0, 0))) : Calls Tryd.prog 89 #[.agg #[.string lk, .string lv], .pointer (some ⟨gx, 0, none⟩)] w fun e w' => e = .returned (.bool (kqB key lk)) ∧ Below w.heap.size w w' := by
  have hbA : Below w.heap.size w (w.alloc (.cells #[.string lk, .string lv] 67)) := (Below.refl _ _).alloc (Nat.le_refl _) _
  have hbAH : Hid (Below w.heap.size w (w.alloc (.cells #[.string lk, .string lv] 67))) := hbA
  have g2 := (hbA.block gx (Array.getElem?_eq_some_iff.1 hb).1).trans hb
  have z0 : (w.alloc (.cells #[.string lk, .string lv] 67)).cell? ⟨gx, 0, none⟩ = some (.string key) := (cell_of_row _ _ 0 _ _ _ g2).trans rfl
  unfold kqB
  clear hb hbA g2
  rcases Bool.eq_false_or_eq_true (lk.toList == key.toList) with b1 | b1
  all_goals
    rw [b1]
    go_enter Tryd.func89, Tryd.ntmps89
    go_wp2
    go_ret
    exact ⟨by first | rfl | simp, hbAH.out⟩

set_option maxHeartbeats 2000000 in
set_option maxRecDepth 100000 in
theorem indexK_any (key val : ByteArray) (gx : Nat) (pl : Option Addr) (L : List (ByteArray × ByteArray)) (ln cl : Nat) (hln : L.length = ln) (hLi : (ln : Int) ≤ 9223372036854775807) (w : World) (hb : w.heap[gx]? = some (.cells #[.string key, .string val] 67 (0, 0))) (hL : Lbs w pl L) :
    Calls Tryd.prog 91 #[.slice pl ln cl, .func (.func 89) #[] #[.pointer (some ⟨gx, 0, none⟩)]] w fun e w' => (∃ r : Int, e = .returned (.int .i64 r) ∧ Hid (decide (0 ≤ r) = L.any fun x => kqB key x.1)) ∧ Below w.heap.size w w' := by
  have hLH : Hid (Lbs w pl L) := hL
  have hbH : Hid (w.heap[gx]? = some (.cells #[.string key, .string val] 67 (0, 0))) := hb
  have hlnH : Hid (L.length = ln) := hln
  have hso := fun lk lv w1 h => lk1_any key val gx lk lv w1 h
  obtain ⟨q, hq⟩ : ∃ q : ByteArray × ByteArray → Bool, q = fun x => kqB key x.1 := ⟨_, rfl⟩
  have hqe : ∀ lk (lv : ByteArray), kqB key lk = q (lk, lv) := fun lk lv => (by rw [hq])
  replace hso : ∀ lk lv w1, w1.heap[gx]? = some (.cells #[.string key, .string val] 67 (0, 0)) → Calls Tryd.prog 89 #[.agg #[.string lk, .string lv], .pointer (some ⟨gx, 0, none⟩)] w1 fun e w' => e = .returned (.bool (q (lk, lv))) ∧ Below w1.heap.size w1 w' := fun lk lv w1 h => by rw [← hqe]; exact hso lk lv w1 h
  have hqH : Hid (∀ x, q x = kqB key x.1) := fun x => by rw [hq]
  have hfin : Hid (∀ r : Int, decide (0 ≤ r) = L.any q → decide (0 ≤ r) = L.any fun x => kqB key x.1) := fun r h => by rw [h, hq]
  clear hL hb hln hq hqe
  go_enter Tryd.func91, Tryd.ntmps91
  go_wp2
  go_loopw [8] (fun iv wr => ∃ j : Nat, iv = .int .i64 j ∧ j ≤ ln ∧ Hid ((L.take j).any q = false) ∧ Hid (Below w.heap.size w wr)) (fun iv _ => ln - (intOf iv).toNat)
  case atStart => exact ⟨0, rfl, Nat.zero_le _, rfl, Below.refl _ _⟩
  case round =>
    obtain ⟨j, rfl, hj, hany, hbl⟩ := hrel
    by_cases hjl : j < ln
    · obtain ⟨x, hx⟩ : ∃ x, L[j]? = some x := ⟨L[j]'(by rw [hlnH.out]; exact hjl), List.getElem?_eq_getElem _⟩
      obtain ⟨g, o, rfl, hg, hc⟩ := hLH.out.resolve_left (fun e => by have := hlnH.out; rw [e] at this; simp at this; omega)
      have q0 := (hbl.out.cell (p := ⟨g, o + j * 2, none⟩) hg).trans (hc j x hx).1
      have q1 := (hbl.out.cell (p := ⟨g, o + j * 2 + 1, none⟩) hg).trans (hc j x hx).2
      have hbx := (hbl.out.block gx (Array.getElem?_eq_some_iff.1 hbH.out).1).trans hbH.out
      have hcall := hso x.1 x.2 wr hbx
      have hsn : Hid ((L.take (j + 1)).any q = q x) := by show _ = _; rw [any_snoc L q hx, hany.out]; rfl
      have hat : Hid (q x = true → L.any q = true) := fun h => any_take (j := j + 1) (by rw [hsn.out]; exact h)
      rw [show (x.1, x.2) = x from rfl] at hcall
      generalize q x = b at *
      clear hx hc hso hbx
      cases b with
      | true =>
        go_wp2_with (first
          | (go_at_call 89; refine hcall.mono ?_; rintro e w5 ⟨rfl, hb5⟩; clear hcall)
          | go_in)
        go_ret
        exact ⟨⟨(j : Int), rfl, hfin.out _ (by rw [show L.any q = true by first | exact hat.out rfl | exact hat.out trivial | exact hat.out]; exact decide_eq_true (by omega))⟩, hbl.out.trans (hb5.mono hbl.out.size)⟩
      | false =>
        go_wp2_with (first
          | (go_at_call 89; refine hcall.mono ?_; rintro e w5 ⟨rfl, hb5⟩; clear hcall)
          | go_in)
        refine ⟨⟨j + 1, by first | rfl | simp, by omega, hsn, hbl.out.trans (hb5.mono hbl.out.size)⟩, ?_⟩
        simp [intOf]
        omega
    · have hall : L.any q = false := by
        have := hany.out
        rw [List.take_of_length_le (by rw [hlnH.out]; omega)] at this
        exact this
      have hallH : Hid (L.any q = false) := hall
      clear hall hso
      go_wp2
      go_ret
      exact ⟨⟨-1, rfl, hfin.out _ (by rw [hallH.out]; rfl)⟩, hbl.out⟩

set_option maxHeartbeats 1000000 in
set_option maxRecDepth 100000 in
theorem containsK_any (key val : ByteArray) (gx : Nat) (pl : Option Addr) (L : List (ByteArray × ByteArray)) (ln cl : Nat) (hln : L.length = ln) (hLi : (ln : Int) ≤ 9223372036854775807) (w : World) (hb : w.heap[gx]? = some (.cells #[.string key, .string val] 67 (0, 0))) (hL : Lbs w pl L) (r0 : Bool) (hr0 : Hid ((L.any fun x => kqB key x.1) = r0)) :
    Calls Tryd.prog 76 #[.slice pl ln cl, .func (.func 89) #[] #[.pointer (some ⟨gx, 0, none⟩)]] w fun e w' => e = .returned (.bool r0) ∧ Below w.heap.size w w' := by
  have hix := indexK_any key val gx pl L ln cl hln hLi w hb hL
  clear hln hLi hb hL
  go_enter Tryd.func76, Tryd.ntmps76
  go_wp2_with (first
    | (go_at_call 91; refine hix.mono ?_; rintro e w3 ⟨⟨r, rfl, hr⟩, hb3⟩; clear hix)
    | go_in)
  go_ret
  exact ⟨ret_bb (by rw [← hr0.out]; exact hr.out), hb3⟩

set_option maxHeartbeats 4000000 in
set_option maxRecDepth 100000 in
theorem checkLabels_any (pl : Option Addr) (L : List (ByteArray × ByteArray)) (ln cl : Nat) (hln : L.length = ln) (hlc : ln ≤ cl) (w : World) (hL : Lbs w pl L) (hX : TabX w) : Calls Tryd.prog 73 #[.slice pl ln cl] w fun e w' => e = .returned (.int .i64 (lblE L)) ∧ Below w.heap.size w w' := by
  by_cases h8 : 8 < ln
  · have e : lblE L = 2 := by unfold lblE; rw [if_pos (by omega)]
    rw [e]
    have h8' : (8 : Int) < (ln : Int) := by omega
    clear e hL hX hln h8
    go_enter Tryd.func73, Tryd.ntmps73
    go_wp2
    go_ret
    exact ⟨rfl, Below.refl _ _⟩
  · have h8' : ¬ (8 : Int) < (ln : Int) := by omega
    obtain ⟨E, hE⟩ : ∃ E, lblE L = E := ⟨_, rfl⟩
    have hEH : Hid (clG [] L = E) := by
      show _ = _
      rw [← hE]
      unfold lblE
      rw [if_neg (by omega)]
    rw [hE]
    have hLH : Hid (Lbs w pl L) := hL
    have hXH : Hid (TabX w) := hX
    have hlnH : Hid (L.length = ln) := hln
    clear hE hL hX hln h8
    go_enter Tryd.func73, Tryd.ntmps73
    go_wp2
    go_loopw [10] (fun iv wr => ∃ j : Nat, iv = .int .i64 j ∧ j ≤ ln ∧ Hid (clG (L.take j) (L.drop j) = E) ∧ Hid (Below w.heap.size w wr)) (fun iv _ => ln - (intOf iv).toNat)
    case atStart => exact ⟨0, rfl, Nat.zero_le _, by rw [List.take_zero, List.drop_zero]; exact hEH, Below.refl _ _⟩
    case round =>
      obtain ⟨j, rfl, hj, hcl, hbl⟩ := hrel
      by_cases hjl : j < ln
      · obtain ⟨x, hx⟩ : ∃ x, L[j]? = some x := ⟨L[j]'(by rw [hlnH.out]; exact hjl), List.getElem?_eq_getElem _⟩
        obtain ⟨g, o, rfl, hg, hc⟩ := hLH.out.resolve_left (fun e => by have := hlnH.out; rw [e] at this; simp at this; omega)
        have q0 := (hbl.out.cell (p := ⟨g, o + j * 2, none⟩) hg).trans (hc j x hx).1
        have q1 := (hbl.out.cell (p := ⟨g, o + j * 2 + 1, none⟩) hg).trans (hc j x hx).2
        have hlt : (j : Int) < (ln : Int) := by omega
        have hjH : Hid (j < ln) := hjl
        have hcl2 := hcl.out
        rw [clG_at hx] at hcl2
        have hLj : ∀ w1, Below w.heap.size w w1 → Lbs w1 (some ⟨g, o, none⟩) (L.take j) := fun w1 hb => (hLH.out.below hb).take j
        have hlj : (L.take j).length = j := by rw [List.length_take, hlnH.out]; omega
        obtain ⟨key, val⟩ := x
        have ha : Below w.heap.size w (wr.alloc (.cells #[.string key, .string val] 67)) := hbl.out.alloc hbl.out.size _
        have la1 := label_any key (wr.alloc (.cells #[.string key, .string val] 67)) (hXH.out.below ha (Nat.le_refl _))
        have la2 := fun w1 (h : Below w.heap.size w w1) => label_any val w1 (hXH.out.below h (Nat.le_refl _))
        have fb := heap_alloc_new wr (.cells #[.string key, .string val] 67)
        have hct := fun w1 (h : Below w.heap.size w w1) (h2 : w1.heap[wr.heap.size]? = some (.cells #[.string key, .string val] 67 (0, 0))) r hr => containsK_any key val wr.heap.size (some ⟨g, o, none⟩) (L.take j) j cl hlj (by omega) w1 h2 (hLj w1 h) r hr
        have haH : Hid (Below w.heap.size w (wr.alloc (.cells #[.string key, .string val] 67))) := ha
        clear hx hc hLj hlj ha hcl hj hjl
        simp only at hcl2
        cases hk : lbB key.data.toList with
        | false =>
          rw [hk] at la1 hcl2
          obtain rfl : 3 = E := by rw [← hcl2]; rfl
          clear hk hcl2 la2 hct
          go_wp2_with (first
            | (go_at_call 70; refine la1.mono ?_; rintro e w3 ⟨rfl, hb3⟩; clear la1)
            | go_in)
          go_ret
          exact ⟨rfl, haH.out.trans (hb3.mono haH.out.size)⟩
        | true =>
          cases hv : lbB val.data.toList with
          | false =>
            rw [hk] at la1 hcl2
            rw [hv] at la2 hcl2
            obtain rfl : 3 = E := by rw [← hcl2]; rfl
            clear hk hv hcl2 hct
            go_wp2_with (first
              | (go_at_call 70; refine la1.mono ?_; rintro e w3 ⟨rfl, hb3⟩; clear la1; have hB3 : Below w.heap.size w w3 := haH.out.trans (hb3.mono haH.out.size); have f3 := (hb3.block _ (Array.getElem?_eq_some_iff.1 fb).1).trans fb; have f1 := (cell_of_row _ _ 1 _ _ _ f3).trans rfl)
              | (go_at_call 70; refine (la2 _ hB3).mono ?_; rintro e w4 ⟨rfl, hb4⟩; clear la2)
              | go_in)
            go_ret
            exact ⟨rfl, hB3.trans (hb4.mono hB3.size)⟩
          | true =>
            rw [hk] at la1 hcl2
            rw [hv] at la2 hcl2
            obtain ⟨r, hr⟩ : ∃ r, ((L.take j).any fun x => kqB key x.1) = r := ⟨_, rfl⟩
            have hct2 := fun w1 h h2 => hct w1 h h2 r hr
            rw [hr] at hcl2
            have hjH2 : Hid (j ≤ ln) := Nat.le_of_lt hjH.out
            have hjc : (j : Int) ≤ (cl : Int) := by have := hjH.out; omega
            have hjn : j ≤ cl := by have := hjH.out; omega
            clear hk hv hct hr
            cases r with
            | true =>
              obtain rfl : 6 = E := by rw [← hcl2]; rfl
              clear hcl2
              go_wp2_with (first
                | (go_at_call 70; refine la1.mono ?_; rintro e w3 ⟨rfl, hb3⟩; clear la1; have hB3 : Below w.heap.size w w3 := haH.out.trans (hb3.mono haH.out.size); have f3 := (hb3.block _ (Array.getElem?_eq_some_iff.1 fb).1).trans fb; have f1 := (cell_of_row _ _ 1 _ _ _ f3).trans rfl)
                | (go_at_call 70; refine (la2 _ hB3).mono ?_; rintro e w4 ⟨rfl, hb4⟩; clear la2; have hB4 : Below w.heap.size w w4 := hB3.trans (hb4.mono hB3.size); have f4 := (hb4.block _ (Array.getElem?_eq_some_iff.1 f3).1).trans f3)
                | (go_at_call 76; refine (hct2 _ hB4 f4).mono ?_; rintro e w5 ⟨rfl, hb5⟩; clear hct2)
                | go_in)
              go_ret
              exact ⟨rfl, hB4.trans (hb5.mono hB4.size)⟩
            | false =>
              have hclH : Hid (clG (L.take (j + 1)) (L.drop (j + 1)) = E) := by
                show _ = _
                rw [← hcl2]
                rfl
              clear hcl2
              go_wp2_with (first
                | (go_at_call 70; refine la1.mono ?_; rintro e w3 ⟨rfl, hb3⟩; clear la1; have hB3 : Below w.heap.size w w3 := haH.out.trans (hb3.mono haH.out.size); have f3 := (hb3.block _ (Array.getElem?_eq_some_iff.1 fb).1).trans fb; have f1 := (cell_of_row _ _ 1 _ _ _ f3).trans rfl)
                | (go_at_call 70; refine (la2 _ hB3).mono ?_; rintro e w4 ⟨rfl, hb4⟩; clear la2; have hB4 : Below w.heap.size w w4 := hB3.trans (hb4.mono hB3.size); have f4 := (hb4.block _ (Array.getElem?_eq_some_iff.1 f3).1).trans f3)
                | (go_at_call 76; refine (hct2 _ hB4 f4).mono ?_; rintro e w5 ⟨rfl, hb5⟩; clear hct2)
                | go_in)
              refine ⟨⟨j + 1, by first | rfl | simp, hjH.out, hclH, hB4.trans (hb5.mono hB4.size)⟩, ?_⟩
              have := hjH.out
              simp [intOf]
              omega
      · have hlt : ¬ (j : Int) < (ln : Int) := by omega
        have hz : 0 = E := by
          have := hcl.out
          rw [List.drop_of_length_le (by rw [hlnH.out]; omega)] at this
          exact this
        subst hz
        go_wp2
        go_ret
        exact ⟨rfl, hbl.out⟩
end Go.Proofs.YtelepamnlpebgabDoor
