/- Package pack: First and Down. -/
import Derived.Test.YtfnkboegbclnaaaKst
namespace Go.Proofs.Ytfnkboegbclnaaa
open Go.RowKit
set_option linter.unusedSectionVars false
set_option linter.unusedVariables false

theorem nums_q {w : World} {q : Option Addr} {l : List Int} (h : Nums w q l) : ∀ g o, q = some ⟨g, o, none⟩ → l.length ≠ 0 → g < w.heap.size := fun g o e h0 => by
  rcases h with h1 | ⟨b, o2, e2, hA⟩
  · exact absurd h1 h0
  · rw [e] at e2; cases e2; exact hA.lt

set_option maxHeartbeats 1000000 in
set_option maxRecDepth 100000 in
theorem First_bad {w : World} {q : Option Addr} {l : List Int} {c : Nat} (size : Int) (h : Nums w q l) (hk : kc l size ≠ 0) :
    Calls Try.prog 8 #[.slice q l.length c, .int .i64 size] w fun e w' => e = .returned (.tuple #[.slice none 0 0, .int .i64 0, .int .i64 (kc l size)]) ∧ Below w.heap.size w w' := by
  have hc := Check_any (c := c) size h
  have hkb : (kc l size != 0) = true := by simpa using hk
  clear h hk
  go_enter Try.func8, Try.ntmps8
  go_wp2_with (first
    | (go_at_call 13; refine hc.mono ?_; rintro e w2 ⟨rfl, hb⟩; clear hc)
    | go_in)
  go_ret3
  exact ⟨rfl, hb⟩

set_option maxHeartbeats 1000000 in
set_option maxRecDepth 100000 in
theorem First_ok {w : World} {q : Option Addr} {l : List Int} {c : Nat} (size : Int) (h : Nums w q l) (hk : kc l size = 0) :
    Calls Try.prog 8 #[.slice q l.length c, .int .i64 size] w fun e w' => (∃ g, e = .returned (.tuple #[.slice (some ⟨g, 0, none⟩) l.length l.length, .int .i64 ((fsA l size (List.range l.length)).m : Int), .int .i64 0]) ∧ w'.ownsRow w.heap.size 3 1 (.slice (some ⟨g, 0, none⟩) l.length l.length) l.length (numf (fsA l size (List.range l.length)).inn l.length)) ∧ Below w.heap.size w w' := by
  have hc := Check_any (c := c) size h
  obtain ⟨k1, k2, k3, k4⟩ := kc_ok hk
  rw [hk] at hc
  have hio : Hid (∀ w2, Calls Try.prog 24 #[.slice q l.length c] w2 fun e w' => e = .returned (.slice (some ⟨w2.heap.size, 0, none⟩) l.length l.length) ∧ w'.ownsRow w2.heap.size 3 1 (.slice (some ⟨w2.heap.size, 0, none⟩) l.length l.length) l.length (numf (fun j => (j : Int)) l.length) ∧ Below w2.heap.size w2 w') := fun w2 => inOrder_any q (by omega)
  have hfi : Hid (∀ (w3 : World) (qr : Option Addr) (cr : Nat), Below w.heap.size w w3 → Nums w3 qr ((List.range l.length).map fun (i : Nat) => (i : Int)) → Calls Try.prog 23 #[.slice q l.length c, .int .i64 size, .slice qr l.length cr] w3 fun e w' => (∃ g, e = .returned (.tuple #[.slice (some ⟨g, 0, none⟩) l.length l.length, .int .i64 ((fsA l size (List.range l.length)).m : Int)]) ∧ w'.ownsRow w3.heap.size 3 1 (.slice (some ⟨g, 0, none⟩) l.length l.length) l.length (numf (fsA l size (List.range l.length)).inn l.length)) ∧ Below w3.heap.size w3 w') := by
    intro w3 qr cr hb hN
    have h2 := fill_any (cl := c) (cr := cr) (h.below hb (Nat.le_refl _)) hN (by omega) (by simp; omega) k3 k4 (fun i hi => List.mem_range.1 hi)
    rwa [List.length_range] at h2
  have hsz : Hid (l.length ≤ 100) := k1
  clear h hk k1 k2 k3 k4
  generalize fsA l size (List.range l.length) = s at *
  go_enter Try.func8, Try.ntmps8
  go_wp2_with (first
    | (go_at_call 13; refine hc.mono ?_; rintro e w2 ⟨rfl, hb⟩; clear hc)
    | (go_at_call 24; refine (hio.out _).mono ?_; rintro e w3 ⟨rfl, hr3, hb3⟩; clear hio)
    | (go_at_call 23; refine (hfi.out _ _ _ (hb.trans (hb3.mono hb.size)) (nums_row hr3)).mono ?_; rintro e w4 ⟨⟨g, rfl, hr4⟩, hb4⟩; clear hfi)
    | fail)
  go_ret3
  have hb5 := hb.trans (hb3.mono hb.size)
  exact ⟨⟨g, rfl, owns_base' hr4 hb5.size⟩, hb5.trans (hb4.mono hb5.size)⟩

set_option maxHeartbeats 1000000 in
set_option maxRecDepth 100000 in
theorem Down_bad {w : World} {q : Option Addr} {l : List Int} {c : Nat} (size : Int) (h : Nums w q l) (hk : kc l size ≠ 0) :
    Calls Try.prog 9 #[.slice q l.length c, .int .i64 size] w fun e w' => e = .returned (.tuple #[.slice none 0 0, .int .i64 0, .int .i64 (kc l size)]) ∧ Below w.heap.size w w' := by
  have hbA : Below w.heap.size w (w.alloc (.cells #[.slice q l.length c] 22)) := (Below.refl _ _).alloc (Nat.le_refl _) _
  have hc0 : (w.alloc (.cells #[.slice q l.length c] 22)).cell? ⟨w.heap.size, 0, none⟩ = some (.slice q l.length c) := (cell_of_row _ _ 0 _ _ _ (heap_alloc_new w (.cells #[.slice q l.length c] 22))).trans rfl
  have hc := Check_any (c := c) size (h.below hbA (Nat.le_refl _))
  have hsz : w.heap.size ≤ (w.alloc (.cells #[.slice q l.length c] 22)).heap.size := hbA.size
  have hkb : (kc l size != 0) = true := by simpa using hk
  clear h hk
  go_enter Try.func9, Try.ntmps9
  go_wp2_with (first
    | (go_at_call 13; refine hc.mono ?_; rintro e w2 ⟨rfl, hb⟩; clear hc)
    | go_in)
  go_ret3
  exact ⟨rfl, hbA.trans (hb.mono hsz)⟩

set_option maxHeartbeats 1000000 in
set_option maxRecDepth 100000 in
theorem Down_ok {w : World} {q : Option Addr} {l : List Int} {c : Nat} (size : Int) (h : Nums w q l) (hk : kc l size = 0) :
    Calls Try.prog 9 #[.slice q l.length c, .int .i64 size] w fun e w' => (∃ R, Perm0 l.length R ∧ Dwn l R ∧ ∃ g, e = .returned (.tuple #[.slice (some ⟨g, 0, none⟩) l.length l.length, .int .i64 ((fsA l size R).m : Int), .int .i64 0]) ∧ w'.ownsRow w.heap.size 3 1 (.slice (some ⟨g, 0, none⟩) l.length l.length) l.length (numf (fsA l size R).inn l.length)) ∧ Below w.heap.size w w' := by
  obtain ⟨k1, k2, k3, k4⟩ := kc_ok hk
  have hbA : Below w.heap.size w (w.alloc (.cells #[.slice q l.length c] 22)) := (Below.refl _ _).alloc (Nat.le_refl _) _
  have hc0 : (w.alloc (.cells #[.slice q l.length c] 22)).cell? ⟨w.heap.size, 0, none⟩ = some (.slice q l.length c) := (cell_of_row _ _ 0 _ _ _ (heap_alloc_new w (.cells #[.slice q l.length c] 22))).trans rfl
  have hhA : (w.alloc (.cells #[.slice q l.length c] 22)).heap.size = w.heap.size + 1 := by simp
  have hNA := h.below hbA (Nat.le_refl _)
  have hc := Check_any (c := c) size hNA
  rw [hk] at hc
  have hq := nums_q h
  have hio : Hid (∀ w2, Calls Try.prog 24 #[.slice q l.length c] w2 fun e w' => e = .returned (.slice (some ⟨w2.heap.size, 0, none⟩) l.length l.length) ∧ w'.ownsRow w2.heap.size 3 1 (.slice (some ⟨w2.heap.size, 0, none⟩) l.length l.length) l.length (numf (fun j => (j : Int)) l.length) ∧ Below w2.heap.size w2 w') := fun w2 => inOrder_any q (by omega)
  have hbAH : Hid (Below w.heap.size w (w.alloc (.cells #[.slice q l.length c] 22))) := hbA
  have hszH : Hid (w.heap.size < (w.alloc (.cells #[.slice q l.length c] 22)).heap.size) := by show _ < _; omega
  have hso : Hid (∀ (w3 : World) (g cap : Nat), Below (w.alloc (.cells #[.slice q l.length c] 22)).heap.size (w.alloc (.cells #[.slice q l.length c] 22)) w3 → (w.alloc (.cells #[.slice q l.length c] 22)).heap.size ≤ g → w3.ownsRow g 3 1 (.slice (some ⟨g, 0, none⟩) l.length cap) l.length (numf (fun j => (j : Int)) l.length) →
      Calls Try.prog 25 #[.slice (some ⟨g, 0, none⟩) l.length cap, .func (.func 26) #[] #[.pointer (some ⟨w.heap.size, 0, none⟩)]] w3 fun e w' => e = .returned (.tuple #[]) ∧ Below g w3 w' ∧ ∃ R, Perm0 l.length R ∧ Dwn l R ∧ Nums w' (some ⟨g, 0, none⟩) (R.map fun (i : Nat) => (i : Int))) := by
    intro w3 g cap hb hg hr
    exact sortD_any (c := c) rfl (by omega) (hNA.below hb (Nat.le_refl _)) (fun g' o e h0 => by have := hq g' o e h0; omega) ((hb.cell (p := ⟨w.heap.size, 0, none⟩) hszH.out).trans hc0) (by have := hszH.out; omega) hr
  have hfi : Hid (∀ (w3 : World) (qr : Option Addr) (cr : Nat) (R : List Nat), Below (w.alloc (.cells #[.slice q l.length c] 22)).heap.size (w.alloc (.cells #[.slice q l.length c] 22)) w3 → Perm0 l.length R → Nums w3 qr (R.map fun (i : Nat) => (i : Int)) → Calls Try.prog 23 #[.slice q l.length c, .int .i64 size, .slice qr l.length cr] w3 fun e w' => (∃ g, e = .returned (.tuple #[.slice (some ⟨g, 0, none⟩) l.length l.length, .int .i64 ((fsA l size R).m : Int)]) ∧ w'.ownsRow w3.heap.size 3 1 (.slice (some ⟨g, 0, none⟩) l.length l.length) l.length (numf (fsA l size R).inn l.length)) ∧ Below w3.heap.size w3 w') := by
    intro w3 qr cr R hb hP hN
    have h2 := fill_any (cl := c) (cr := cr) (hNA.below hb (Nat.le_refl _)) hN (by omega) (by rw [hP.len]; omega) k3 k4 hP.lt
    rwa [hP.len] at h2
  have hcell : Hid (∀ w3, Below (w.alloc (.cells #[.slice q l.length c] 22)).heap.size (w.alloc (.cells #[.slice q l.length c] 22)) w3 → w3.cell? ⟨w.heap.size, 0, none⟩ = some (.slice q l.length c)) := fun w3 hb => (hb.cell (p := ⟨w.heap.size, 0, none⟩) hszH.out).trans hc0
  clear h hk k1 k2 k3 k4 hbA hNA hq hhA
  go_enter Try.func9, Try.ntmps9
  go_wp2_with (first
    | (go_at_call 13; refine hc.mono ?_; rintro e w2 ⟨rfl, hb⟩; clear hc hc0; have z2 := hcell.out w2 hb)
    | (go_at_call 24; refine (hio.out _).mono ?_; rintro e w3 ⟨rfl, hr3, hb3⟩; clear hio z2; have hb4 := hb.trans (hb3.mono hb.size))
    | (go_at_call 25; refine (hso.out _ _ _ hb4 hb.size hr3).mono ?_; rintro e w5 ⟨rfl, hb5, R, hP, hD, hN5⟩; clear hso; have hb6 := hb4.trans (hb5.mono hb.size); have z5 := hcell.out w5 hb6)
    | (go_at_call 23; refine (hfi.out _ _ _ R hb6 hP hN5).mono ?_; rintro e w7 ⟨⟨g, rfl, hr7⟩, hb7⟩; clear hfi z5)
    | fail)
  go_ret3
  have hb8 := hbAH.out.trans (hb6.mono (Nat.le_of_lt hszH.out))
  exact ⟨⟨R, hP, hD, g, rfl, owns_base' hr7 hb8.size⟩, hb8.trans (hb7.mono hb8.size)⟩
end Go.Proofs.Ytfnkboegbclnaaa
