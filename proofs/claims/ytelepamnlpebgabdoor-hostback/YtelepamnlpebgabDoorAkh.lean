/- ask.holds, walked, where its atoms are told by the closure ask.Holds$1. -/
import Derived.Test.YtelepamnlpebgabDoorAkk
namespace Go.Proofs.YtelepamnlpebgabDoor
open Go.RowKit Go.Shelf Akm Ndm
set_option linter.unusedSectionVars false
set_option linter.unusedVariables false

mutual
/-- Does it hold, where that is told of each atom? -/
def hoT (f : Tr → Bool) : Tr → Bool
  | .mk k a b n xs => if k = 4 then !((hoL f xs).getD 0 false) else if k = 5 then ((hoL f xs).getD 0 false && (hoL f xs).getD 1 false) else if k = 6 then ((hoL f xs).getD 0 false || (hoL f xs).getD 1 false) else f (.mk k a b n xs)
def hoL (f : Tr → Bool) : List Tr → List Bool
  | [] => []
  | x :: r => hoT f x :: hoL f r
end
/-- All in one have as many in X as their kinds ask. -/
def arT (t : Tr) : Prop := ∀ Y ∈ allT t, (Y.k = 4 → Y.xs.length = 1) ∧ (Y.k = 5 ∨ Y.k = 6 → Y.xs.length = 2)
theorem mem_allL {x Y : Tr} : ∀ {l : List Tr}, x ∈ l → Y ∈ allT x → Y ∈ allL l
  | Z :: r, hx, hy => by
    rw [allL, List.mem_append]
    rcases List.mem_cons.1 hx with h | h
    · subst h; exact Or.inl hy
    · exact Or.inr (mem_allL h hy)
theorem arT_child {k : Int} {a b : ByteArray} {n : Int} {xs : List Tr} (h : arT (.mk k a b n xs)) {x : Tr} (hx : x ∈ xs) : arT x := fun Y hy => h Y (by rw [allT]; exact List.mem_cons_of_mem _ (mem_allL hx hy))
theorem arT_self {k : Int} {a b : ByteArray} {n : Int} {xs : List Tr} (h : arT (.mk k a b n xs)) : (k = 4 → xs.length = 1) ∧ (k = 5 ∨ k = 6 → xs.length = 2) := h (.mk k a b n xs) (by rw [allT]; simp)

def HoldsOk (w0 : World) (f : Tr → Bool) (pc : Option Addr) (t : Tr) : Prop :=
  ∀ (v : Value), liesT w0 t v → arT t → ∀ W, Below w0.heap.size w0 W → Calls Tryd.prog 57 #[v, .func (.func 58) #[] #[.pointer pc]] W fun e W' => e = .returned (.bool (hoT f t)) ∧ Below W.heap.size W W'

set_option maxHeartbeats 2000000 in
set_option maxRecDepth 100000 in
theorem holds_one (w0 : World) (f : Tr → Bool) (pc : Option Addr)
    (hf : ∀ (t : Tr) (v : Value), liesT w0 t v → ∀ W, Below w0.heap.size w0 W → Calls Tryd.prog 58 #[v, .pointer pc] W fun e W' => e = .returned (.bool (f t)) ∧ Below W.heap.size W W')
    (k : Int) (a b : ByteArray) (n : Int) (xs : List Tr) (IH : ∀ x ∈ xs, HoldsOk w0 f pc x) : HoldsOk w0 f pc (.mk k a b n xs) := by
  intro v hv har W hB
  have hvl := hv
  have hs := arT_self har
  have hch := fun x hx => arT_child har (x := x) hx
  rw [liesT] at hv
  obtain ⟨p, cap, rfl, hxl, hxs⟩ := hv
  clear hxl
  obtain ⟨m, hm⟩ : ∃ m, xs.length = m := ⟨_, rfl⟩
  rw [hm] at hvl hs
  rw [hm]
  have hbA : Below W.heap.size W (W.alloc (.cells #[.int .i64 k, .string a, .string b, .int .i64 n, .slice p m cap] 25)) := (Below.refl _ _).alloc (Nat.le_refl _) _
  have hBA : Below w0.heap.size w0 (W.alloc (.cells #[.int .i64 k, .string a, .string b, .int .i64 n, .slice p m cap] 25)) := hB.trans (hbA.mono hB.size)
  have h1 : (W.alloc (.cells #[.int .i64 k, .string a, .string b, .int .i64 n, .slice p m cap] 25)).heap[W.heap.size]? = some (.cells #[.int .i64 k, .string a, .string b, .int .i64 n, .slice p m cap] 25 (0, 0)) := heap_alloc_new _ _
  have hbAH : Hid (Below W.heap.size W (W.alloc (.cells #[.int .i64 k, .string a, .string b, .int .i64 n, .slice p m cap] 25))) := hbA
  rw [hoT]
  rcases (show k = 4 ∨ k = 5 ∨ k = 6 ∨ (¬ k = 4 ∧ ¬ k = 5 ∧ ¬ k = 6) by omega) with rfl | rfl | rfl | ⟨n4, n5, n6⟩
  · obtain ⟨Y, rfl⟩ : ∃ Y, xs = [Y] := by
      have := hm.trans (hs.1 rfl)
      match xs, this with
      | [Y], _ => exact ⟨Y, rfl⟩
    obtain rfl : m = 1 := hs.1 rfl
    clear hm
    obtain ⟨g, o, rfl, hg, hll⟩ := hxs.resolve_left (by simp)
    have hxY : [Y][0]? = some Y := rfl
    have hihY := IH Y (by simp)
    have haryY := hch Y (by simp)
    rw [if_pos rfl, show (hoL f [Y]).getD 0 false = hoT f Y from rfl]
    obtain ⟨c0Y, c1Y, c2Y, c3Y, c4Y, hcY, hlY⟩ := liesL_at _ o 0 Y hll hxY
    have hcallY := fun W1 hW1 => hihY _ hlY haryY W1 hW1
    clear hihY haryY
    obtain ⟨kY, aY, bY, nY, xsY⟩ := Y
    rw [liesT] at hlY
    obtain ⟨pY, capY, e2, _, _⟩ := hlY
    have e3 := Value.agg.inj e2
    simp only [Array.mk.injEq, List.cons.injEq, and_true] at e3
    obtain ⟨rfl, rfl, rfl, rfl, rfl⟩ := e3
    clear e2
    have hcy2 := hcallY _ hBA
    generalize hoT f (Tr.mk kY aY bY nY xsY) = r at *
    have q0 := (hBA.cell (p := ⟨g, o, none⟩) hg).trans (show w0.cell? ⟨g, o, none⟩ = _ from hcY.1)
    have q1 := (hBA.cell (p := ⟨g, o + 1, none⟩) hg).trans (show w0.cell? ⟨g, o + 1, none⟩ = _ from hcY.2.1)
    have q2 := (hBA.cell (p := ⟨g, o + 2, none⟩) hg).trans (show w0.cell? ⟨g, o + 2, none⟩ = _ from hcY.2.2.1)
    have q3 := (hBA.cell (p := ⟨g, o + 3, none⟩) hg).trans (show w0.cell? ⟨g, o + 3, none⟩ = _ from hcY.2.2.2.1)
    have q4 := (hBA.cell (p := ⟨g, o + 4, none⟩) hg).trans (show w0.cell? ⟨g, o + 4, none⟩ = _ from hcY.2.2.2.2)
    clear hs hch hxs hvl har IH hf hBA hB hbA h1 hcY hcallY hll hxY
    go_enter Tryd.func57, Tryd.ntmps57
    go_wp2_with (first
      | (go_at_call 57; refine hcy2.mono ?_; rintro e w3 ⟨rfl, hb3⟩; clear hcy2)
      | go_in)
    go_ret
    exact ⟨rfl, hbAH.out.trans (hb3.mono hbAH.out.size)⟩
  · obtain ⟨Y, Z, rfl⟩ : ∃ Y Z, xs = [Y, Z] := by
      have := hm.trans (hs.2 (by simp))
      match xs, this with
      | [Y, Z], _ => exact ⟨Y, Z, rfl⟩
    obtain rfl : m = 2 := hs.2 (by simp)
    clear hm
    obtain ⟨g, o, rfl, hg, hll⟩ := hxs.resolve_left (by simp)
    have hxY : [Y, Z][0]? = some Y := rfl
    have hxZ : [Y, Z][1]? = some Z := rfl
    have hihY := IH Y (by simp)
    have haryY := hch Y (by simp)
    have hihZ := IH Z (by simp)
    have haryZ := hch Z (by simp)
    rw [if_neg (by decide), if_pos rfl, show (hoL f [Y, Z]).getD 0 false = hoT f Y from rfl, show (hoL f [Y, Z]).getD 1 false = hoT f Z from rfl]
    obtain ⟨c0Y, c1Y, c2Y, c3Y, c4Y, hcY, hlY⟩ := liesL_at _ o 0 Y hll hxY
    have hcallY := fun W1 hW1 => hihY _ hlY haryY W1 hW1
    clear hihY haryY
    obtain ⟨kY, aY, bY, nY, xsY⟩ := Y
    rw [liesT] at hlY
    obtain ⟨pY, capY, e2, _, _⟩ := hlY
    have e3 := Value.agg.inj e2
    simp only [Array.mk.injEq, List.cons.injEq, and_true] at e3
    obtain ⟨rfl, rfl, rfl, rfl, rfl⟩ := e3
    clear e2
    obtain ⟨c0Z, c1Z, c2Z, c3Z, c4Z, hcZ, hlZ⟩ := liesL_at _ o 1 Z hll hxZ
    have hcallZ := fun W1 hW1 => hihZ _ hlZ haryZ W1 hW1
    clear hihZ haryZ
    obtain ⟨kZ, aZ, bZ, nZ, xsZ⟩ := Z
    rw [liesT] at hlZ
    obtain ⟨pZ, capZ, e2, _, _⟩ := hlZ
    have e3 := Value.agg.inj e2
    simp only [Array.mk.injEq, List.cons.injEq, and_true] at e3
    obtain ⟨rfl, rfl, rfl, rfl, rfl⟩ := e3
    clear e2
    have hcy2 := hcallY _ hBA
    generalize hoT f (Tr.mk kY aY bY nY xsY) = ry at *
    generalize hoT f (Tr.mk kZ aZ bZ nZ xsZ) = rz at *
    have q0 := (hBA.cell (p := ⟨g, o, none⟩) hg).trans (show w0.cell? ⟨g, o, none⟩ = _ from hcY.1)
    have q1 := (hBA.cell (p := ⟨g, o + 1, none⟩) hg).trans (show w0.cell? ⟨g, o + 1, none⟩ = _ from hcY.2.1)
    have q2 := (hBA.cell (p := ⟨g, o + 2, none⟩) hg).trans (show w0.cell? ⟨g, o + 2, none⟩ = _ from hcY.2.2.1)
    have q3 := (hBA.cell (p := ⟨g, o + 3, none⟩) hg).trans (show w0.cell? ⟨g, o + 3, none⟩ = _ from hcY.2.2.2.1)
    have q4 := (hBA.cell (p := ⟨g, o + 4, none⟩) hg).trans (show w0.cell? ⟨g, o + 4, none⟩ = _ from hcY.2.2.2.2)
    have hBAH : Hid (Below w0.heap.size w0 _) := hBA
    have hczH : Hid (cell5 w0 g (o + 1 * 5) (.int .i64 kZ) (.string aZ) (.string bZ) (.int .i64 nZ) (.slice pZ xsZ.length capZ)) := hcZ
    have h1H : Hid (_ = _) := h1
    clear hs hch hxs hvl har IH hf hBA hB hbA h1 hcY hcZ hcallY hll hxY hxZ
    cases ry with
    | false =>
      clear hcallZ
      go_enter Tryd.func57, Tryd.ntmps57
      go_wp2_with (first
        | (go_at_call 57; refine hcy2.mono ?_; rintro e w3 ⟨rfl, hb3⟩; clear hcy2)
        | go_in)
      go_ret
      exact ⟨by first | rfl | simp, hbAH.out.trans (hb3.mono hbAH.out.size)⟩
    | true =>
      go_enter Tryd.func57, Tryd.ntmps57
      go_wp2_with (first
        | (go_at_call 57; refine hcy2.mono ?_; rintro e w3 ⟨rfl, hb3⟩; clear hcy2 q0 q1 q2 q3 q4; have hB3 : Below w0.heap.size w0 w3 := hBAH.out.trans (hb3.mono hBAH.out.size); have y4 := (cell_of_row _ _ 4 _ _ _ ((hb3.block W.heap.size (by simp)).trans h1H.out)).trans rfl; have u0 := (hB3.cell (p := ⟨g, o + 5, none⟩) hg).trans (show w0.cell? ⟨g, o + 5, none⟩ = _ from hczH.out.1); have u1 := (hB3.cell (p := ⟨g, o + 6, none⟩) hg).trans (show w0.cell? ⟨g, o + 6, none⟩ = _ from hczH.out.2.1); have u2 := (hB3.cell (p := ⟨g, o + 7, none⟩) hg).trans (show w0.cell? ⟨g, o + 7, none⟩ = _ from hczH.out.2.2.1); have u3 := (hB3.cell (p := ⟨g, o + 8, none⟩) hg).trans (show w0.cell? ⟨g, o + 8, none⟩ = _ from hczH.out.2.2.2.1); have u4 := (hB3.cell (p := ⟨g, o + 9, none⟩) hg).trans (show w0.cell? ⟨g, o + 9, none⟩ = _ from hczH.out.2.2.2.2))
        | (go_at_call 57; refine (hcallZ _ hB3).mono ?_; rintro e w4 ⟨rfl, hb4⟩; clear hcallZ)
        | go_in)
      go_ret
      exact ⟨by first | rfl | simp, hbAH.out.trans ((hb3.mono hbAH.out.size).trans (hb4.mono (Nat.le_trans hbAH.out.size hb3.size)))⟩
  · obtain ⟨Y, Z, rfl⟩ : ∃ Y Z, xs = [Y, Z] := by
      have := hm.trans (hs.2 (by simp))
      match xs, this with
      | [Y, Z], _ => exact ⟨Y, Z, rfl⟩
    obtain rfl : m = 2 := hs.2 (by simp)
    clear hm
    obtain ⟨g, o, rfl, hg, hll⟩ := hxs.resolve_left (by simp)
    have hxY : [Y, Z][0]? = some Y := rfl
    have hxZ : [Y, Z][1]? = some Z := rfl
    have hihY := IH Y (by simp)
    have haryY := hch Y (by simp)
    have hihZ := IH Z (by simp)
    have haryZ := hch Z (by simp)
    rw [if_neg (by decide), if_neg (by decide), if_pos rfl, show (hoL f [Y, Z]).getD 0 false = hoT f Y from rfl, show (hoL f [Y, Z]).getD 1 false = hoT f Z from rfl]
    obtain ⟨c0Y, c1Y, c2Y, c3Y, c4Y, hcY, hlY⟩ := liesL_at _ o 0 Y hll hxY
    have hcallY := fun W1 hW1 => hihY _ hlY haryY W1 hW1
    clear hihY haryY
    obtain ⟨kY, aY, bY, nY, xsY⟩ := Y
    rw [liesT] at hlY
    obtain ⟨pY, capY, e2, _, _⟩ := hlY
    have e3 := Value.agg.inj e2
    simp only [Array.mk.injEq, List.cons.injEq, and_true] at e3
    obtain ⟨rfl, rfl, rfl, rfl, rfl⟩ := e3
    clear e2
    obtain ⟨c0Z, c1Z, c2Z, c3Z, c4Z, hcZ, hlZ⟩ := liesL_at _ o 1 Z hll hxZ
    have hcallZ := fun W1 hW1 => hihZ _ hlZ haryZ W1 hW1
    clear hihZ haryZ
    obtain ⟨kZ, aZ, bZ, nZ, xsZ⟩ := Z
    rw [liesT] at hlZ
    obtain ⟨pZ, capZ, e2, _, _⟩ := hlZ
    have e3 := Value.agg.inj e2
    simp only [Array.mk.injEq, List.cons.injEq, and_true] at e3
    obtain ⟨rfl, rfl, rfl, rfl, rfl⟩ := e3
    clear e2
    have hcy2 := hcallY _ hBA
    generalize hoT f (Tr.mk kY aY bY nY xsY) = ry at *
    generalize hoT f (Tr.mk kZ aZ bZ nZ xsZ) = rz at *
    have q0 := (hBA.cell (p := ⟨g, o, none⟩) hg).trans (show w0.cell? ⟨g, o, none⟩ = _ from hcY.1)
    have q1 := (hBA.cell (p := ⟨g, o + 1, none⟩) hg).trans (show w0.cell? ⟨g, o + 1, none⟩ = _ from hcY.2.1)
    have q2 := (hBA.cell (p := ⟨g, o + 2, none⟩) hg).trans (show w0.cell? ⟨g, o + 2, none⟩ = _ from hcY.2.2.1)
    have q3 := (hBA.cell (p := ⟨g, o + 3, none⟩) hg).trans (show w0.cell? ⟨g, o + 3, none⟩ = _ from hcY.2.2.2.1)
    have q4 := (hBA.cell (p := ⟨g, o + 4, none⟩) hg).trans (show w0.cell? ⟨g, o + 4, none⟩ = _ from hcY.2.2.2.2)
    have hBAH : Hid (Below w0.heap.size w0 _) := hBA
    have hczH : Hid (cell5 w0 g (o + 1 * 5) (.int .i64 kZ) (.string aZ) (.string bZ) (.int .i64 nZ) (.slice pZ xsZ.length capZ)) := hcZ
    have h1H : Hid (_ = _) := h1
    clear hs hch hxs hvl har IH hf hBA hB hbA h1 hcY hcZ hcallY hll hxY hxZ
    cases ry with
    | true =>
      clear hcallZ
      go_enter Tryd.func57, Tryd.ntmps57
      go_wp2_with (first
        | (go_at_call 57; refine hcy2.mono ?_; rintro e w3 ⟨rfl, hb3⟩; clear hcy2)
        | go_in)
      go_ret
      exact ⟨by first | rfl | simp, hbAH.out.trans (hb3.mono hbAH.out.size)⟩
    | false =>
      go_enter Tryd.func57, Tryd.ntmps57
      go_wp2_with (first
        | (go_at_call 57; refine hcy2.mono ?_; rintro e w3 ⟨rfl, hb3⟩; clear hcy2 q0 q1 q2 q3 q4; have hB3 : Below w0.heap.size w0 w3 := hBAH.out.trans (hb3.mono hBAH.out.size); have y4 := (cell_of_row _ _ 4 _ _ _ ((hb3.block W.heap.size (by simp)).trans h1H.out)).trans rfl; have u0 := (hB3.cell (p := ⟨g, o + 5, none⟩) hg).trans (show w0.cell? ⟨g, o + 5, none⟩ = _ from hczH.out.1); have u1 := (hB3.cell (p := ⟨g, o + 6, none⟩) hg).trans (show w0.cell? ⟨g, o + 6, none⟩ = _ from hczH.out.2.1); have u2 := (hB3.cell (p := ⟨g, o + 7, none⟩) hg).trans (show w0.cell? ⟨g, o + 7, none⟩ = _ from hczH.out.2.2.1); have u3 := (hB3.cell (p := ⟨g, o + 8, none⟩) hg).trans (show w0.cell? ⟨g, o + 8, none⟩ = _ from hczH.out.2.2.2.1); have u4 := (hB3.cell (p := ⟨g, o + 9, none⟩) hg).trans (show w0.cell? ⟨g, o + 9, none⟩ = _ from hczH.out.2.2.2.2))
        | (go_at_call 57; refine (hcallZ _ hB3).mono ?_; rintro e w4 ⟨rfl, hb4⟩; clear hcallZ)
        | go_in)
      go_ret
      exact ⟨by first | rfl | simp, hbAH.out.trans ((hb3.mono hbAH.out.size).trans (hb4.mono (Nat.le_trans hbAH.out.size hb3.size)))⟩
  · rw [if_neg n4, if_neg n5, if_neg n6]
    have m4 : (k == 4) = false := by simpa using n4
    have m5 : (k == 5) = false := by simpa using n5
    have m6 : (k == 6) = false := by simpa using n6
    have hfc := hf _ _ hvl _ hBA
    generalize f (Tr.mk k a b n xs) = r at *
    clear n4 n5 n6 hs hch hxs hvl har IH hf hBA hB hbA h1
    go_enter Tryd.func57, Tryd.ntmps57
    go_wp2_with (first
      | (go_at_call 58; refine hfc.mono ?_; rintro e w3 ⟨rfl, hb3⟩; clear hfc)
      | go_in)
    go_ret
    exact ⟨rfl, hbAH.out.trans (hb3.mono hbAH.out.size)⟩

mutual
theorem holds_in (w0 : World) (f : Tr → Bool) (pc : Option Addr)
    (hf : ∀ (t : Tr) (v : Value), liesT w0 t v → ∀ W, Below w0.heap.size w0 W → Calls Tryd.prog 58 #[v, .pointer pc] W fun e W' => e = .returned (.bool (f t)) ∧ Below W.heap.size W W') : ∀ t, HoldsOk w0 f pc t
  | .mk k a b n xs => holds_one w0 f pc hf k a b n xs (holds_each w0 f pc hf xs)
theorem holds_each (w0 : World) (f : Tr → Bool) (pc : Option Addr)
    (hf : ∀ (t : Tr) (v : Value), liesT w0 t v → ∀ W, Below w0.heap.size w0 W → Calls Tryd.prog 58 #[v, .pointer pc] W fun e W' => e = .returned (.bool (f t)) ∧ Below W.heap.size W W') : ∀ xs : List Tr, ∀ x ∈ xs, HoldsOk w0 f pc x
  | [], x, hx => by cases hx
  | u :: r, x, hx => by
    rcases List.mem_cons.1 hx with h | h
    · rw [h]
      exact holds_in w0 f pc hf u
    · exact holds_each w0 f pc hf r x h
end
end Go.Proofs.YtelepamnlpebgabDoor
