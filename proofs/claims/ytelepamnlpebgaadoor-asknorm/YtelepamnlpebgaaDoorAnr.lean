/- ask.norm, walked: the whole recursion. -/
import Derived.Test.YtelepamnlpebgaaDoorAkn
import Derived.Test.YtelepamnlpebgaaDoorAlf
import Derived.Test.YtelepamnlpebgaaDoorTkc
import Derived.Test.YtelepamnlpebgaaDoorTko
namespace Go.Proofs.YtelepamnlpebgaaDoor
open Go.RowKit Go.Shelf Akm Ndm
set_option linter.unusedSectionVars false
set_option linter.unusedVariables false

theorem ask_one (k : Int) (a b : ByteArray) (n : Int) (p : Option Addr) (m cap : Nat) : (#[.int .i64 k, .string a, .string b, .int .i64 n, .slice p m cap] : Array Value).all (·.oneCell') = true := by simp [Value.oneCell']
theorem two_tr {l : List Tr} (h : l.length = 2) : ∃ a b, l = [a, b] := by
  match l, h with
  | [a, b], _ => exact ⟨a, b, rfl⟩
/-- What norm leaves. -/
def NormOk (w0 : World) (t : Tr) : Prop :=
  ∀ (q : Bool) (v : Value), liesT w0 t v → okT t → ∀ W, Below w0.heap.size w0 W → ∀ k3 a3 b3 n3 xs3 m3, nrT q t = .mk k3 a3 b3 n3 xs3 → xs3.length = m3 → Calls Tryd.prog 39 #[v, .bool q] W fun e W' => (∃ p3 cap3, e = .returned (.agg #[.int .i64 k3, .string a3, .string b3, .int .i64 n3, .slice p3 m3 cap3]) ∧ liesF W.heap.size W' (.mk k3 a3 b3 n3 xs3) (.agg #[.int .i64 k3, .string a3, .string b3, .int .i64 n3, .slice p3 m3 cap3])) ∧ Below W.heap.size W W'

theorem norm_boxes (W : World) (c0 c1 c2 c3 c4 : Value) : ((W.alloc (.cells #[c0, c1, c2, c3, c4] 24)).alloc (.cells #[.int .i64 0, .string ⟨#[]⟩, .string ⟨#[]⟩, .int .i64 0, .slice none 0 0] 24)).heap[W.heap.size]? = some (.cells #[c0, c1, c2, c3, c4] 24 (0, 0)) ∧ ((W.alloc (.cells #[c0, c1, c2, c3, c4] 24)).alloc (.cells #[.int .i64 0, .string ⟨#[]⟩, .string ⟨#[]⟩, .int .i64 0, .slice none 0 0] 24)).heap[W.heap.size + 1]? = some (.cells #[.int .i64 0, .string ⟨#[]⟩, .string ⟨#[]⟩, .int .i64 0, .slice none 0 0] 24 (0, 0)) ∧ Below W.heap.size W ((W.alloc (.cells #[c0, c1, c2, c3, c4] 24)).alloc (.cells #[.int .i64 0, .string ⟨#[]⟩, .string ⟨#[]⟩, .int .i64 0, .slice none 0 0] 24)) ∧ ((W.alloc (.cells #[c0, c1, c2, c3, c4] 24)).alloc (.cells #[.int .i64 0, .string ⟨#[]⟩, .string ⟨#[]⟩, .int .i64 0, .slice none 0 0] 24)).heap.size = W.heap.size + 2 := by
  refine ⟨(Below.heap_alloc _ _ _ (by simp)).trans (heap_alloc_new _ _), ?_, ((Below.refl _ _).alloc (Nat.le_refl _) _).alloc (by simp) _, by simp⟩
  have h := heap_alloc_new (W.alloc (.cells #[c0, c1, c2, c3, c4] 24)) (.cells #[.int .i64 0, .string ⟨#[]⟩, .string ⟨#[]⟩, .int .i64 0, .slice none 0 0] 24)
  rw [World.size_alloc] at h
  exact h

set_option maxHeartbeats 4000000 in
set_option maxRecDepth 100000 in
theorem norm_not (w0 : World) (a b : ByteArray) (n : Int) (xs : List Tr) (IH : ∀ x ∈ xs, NormOk w0 x) : NormOk w0 (.mk 4 a b n xs) := by
  intro q v hv hok W hB k3 a3 b3 n3 xs3 m3 hN hm3
  have hs := (chE_zero (okT_self hok)).2.1
  have hch := fun x hx => okT_child hok (x := x) hx
  rw [liesT] at hv
  obtain ⟨p, cap, rfl, hxl, hxs⟩ := hv
  obtain ⟨Y, rfl⟩ : ∃ Y, xs = [Y] := by
    have : inK 4 = 1 := rfl
    match xs, (show xs.length = 1 by omega) with
    | [y], _ => exact ⟨y, rfl⟩
  obtain ⟨g, o, rfl, hg, hll⟩ := hxs.resolve_left (by simp)
  rw [nrT, if_pos rfl] at hN
  have hN : nrT (!q) Y = .mk k3 a3 b3 n3 xs3 := hN
  obtain ⟨c0Y, c1Y, c2Y, c3Y, c4Y, hcY, hlY⟩ := liesL_at _ o 0 Y hll rfl
  have hcall := fun W1 hW1 => IH Y (by simp) (!q) _ hlY (hch Y (by simp)) W1 hW1 k3 a3 b3 n3 xs3 m3 hN hm3
  obtain ⟨kY, aY, bY, nY, xsY⟩ := Y
  rw [liesT] at hlY
  obtain ⟨pY, capY, e2, _, _⟩ := hlY
  have e3 := Value.agg.inj e2
  simp only [Array.mk.injEq, List.cons.injEq, and_true] at e3
  obtain ⟨rfl, rfl, rfl, rfl, rfl⟩ := e3
  clear e2
  obtain ⟨h1, h4, hBW, hsz⟩ := norm_boxes W (.int .i64 4) (.string a) (.string b) (.int .i64 n) (.slice (some ⟨g, o, none⟩) 1 cap)
  have hBA : Below w0.heap.size w0 ((W.alloc (.cells #[.int .i64 4, .string a, .string b, .int .i64 n, .slice (some ⟨g, o, none⟩) 1 cap] 24)).alloc (.cells #[.int .i64 0, .string ⟨#[]⟩, .string ⟨#[]⟩, .int .i64 0, .slice none 0 0] 24)) := hB.trans (hBW.mono hB.size)
  have hc := hcall _ hBA
  have q0 := (hBA.cell (p := ⟨g, o, none⟩) hg).trans (show w0.cell? ⟨g, o, none⟩ = _ from by simpa using hcY.1)
  have q1 := (hBA.cell (p := ⟨g, o + 1, none⟩) hg).trans (show w0.cell? ⟨g, o + 1, none⟩ = _ from by simpa using hcY.2.1)
  have q2 := (hBA.cell (p := ⟨g, o + 2, none⟩) hg).trans (show w0.cell? ⟨g, o + 2, none⟩ = _ from by simpa using hcY.2.2.1)
  have q3 := (hBA.cell (p := ⟨g, o + 3, none⟩) hg).trans (show w0.cell? ⟨g, o + 3, none⟩ = _ from by simpa using hcY.2.2.2.1)
  have q4 := (hBA.cell (p := ⟨g, o + 4, none⟩) hg).trans (show w0.cell? ⟨g, o + 4, none⟩ = _ from by simpa using hcY.2.2.2.2)
  have hBWH : Hid (Below W.heap.size W ((W.alloc (.cells #[.int .i64 4, .string a, .string b, .int .i64 n, .slice (some ⟨g, o, none⟩) 1 cap] 24)).alloc (.cells #[.int .i64 0, .string ⟨#[]⟩, .string ⟨#[]⟩, .int .i64 0, .slice none 0 0] 24))) := hBW
  have hszH : Hid (((W.alloc (.cells #[.int .i64 4, .string a, .string b, .int .i64 n, .slice (some ⟨g, o, none⟩) 1 cap] 24)).alloc (.cells #[.int .i64 0, .string ⟨#[]⟩, .string ⟨#[]⟩, .int .i64 0, .slice none 0 0] 24)).heap.size = W.heap.size + 2) := hsz
  obtain ⟨mY, hmY⟩ : ∃ m, xsY.length = m := ⟨_, rfl⟩
  rw [hmY] at hc q4
  clear hs hch hxs hxl hok IH hcall hll hcY hN hm3 hB hBW hBA h1 hmY
  go_enter Tryd.func39, Tryd.ntmps39
  go_wp2_with (first
    | (go_at_call 39; refine hc.mono ?_; rintro e w3 ⟨⟨p3, cap3, rfl, hl3⟩, hb3⟩; clear hc; have g4 := (hb3.block (W.heap.size + 1) (by rw [hszH.out]; omega)).trans h4; clear h4; have hl3H : Hid (liesF _ w3 _ _) := hl3; have hb3H : Hid (Below _ _ w3) := hb3; clear hl3 hb3 q0 q1 q2 q3 q4)
    | (refine wpList_store_row rfl 24 _ _ rfl _ #[.int .i64 k3, .string a3, .string b3, .int .i64 n3, .slice p3 m3 cap3] rfl rfl _ _ (g4) (ask_info _ rfl) rfl (ask_one _ _ _ _ _ _ _) ?_)
    | go_in)
  refine bodyPost_ret (results_cell_row Tryd.results39 _ _ (W.heap.size + 1) _ #[.int .i64 k3, .string a3, .string b3, .int .i64 n3, .slice p3 m3 cap3] (0, 0) _ rfl (setRow_heap w3 (W.heap.size + 1) _ _ _ _ g4) Tryd.underlying24 rfl (ask_info _ rfl)) rfl ?_
  have hs3 := hb3H.out.size
  exact ⟨⟨p3, cap3, rfl, (hl3H.out.row (by rw [hszH.out]; omega) _).le (by rw [hszH.out]; omega)⟩, below_row (hBWH.out.trans (hb3H.out.mono hBWH.out.size)) (by omega)⟩

set_option maxHeartbeats 8000000 in
set_option maxRecDepth 100000 in
theorem norm_two5 (w0 : World) (a b : ByteArray) (n : Int) (xs : List Tr) (IH : ∀ x ∈ xs, NormOk w0 x) : NormOk w0 (.mk 5 a b n xs) := by
  intro q v hv hok W hB k3 a3 b3 n3 xs3 m3 hN hm3
  have hs := (chE_zero (okT_self hok)).2.1
  have hch := fun x hx => okT_child hok (x := x) hx
  rw [liesT] at hv
  obtain ⟨p, cap, rfl, hxl, hxs⟩ := hv
  obtain ⟨Y, Z, rfl⟩ : ∃ Y Z, xs = [Y, Z] := by
    have hlen : xs.length = 2 := by
      rw [show inK 5 = 2 from rfl] at hs
      exact Int.ofNat.inj hs
    exact two_tr hlen
  obtain ⟨g, o, rfl, hg, hll⟩ := hxs.resolve_left (by simp)
  rw [nrT, if_neg (by decide), if_pos (by decide)] at hN
  obtain ⟨T0, hT0⟩ : ∃ T0, nrT q Y = T0 := ⟨_, rfl⟩
  obtain ⟨T1, hT1⟩ : ∃ T1, nrT q Z = T1 := ⟨_, rfl⟩
  rw [nrL, nrL, nrL, hT0, hT1] at hN
  obtain ⟨k5, a5, b5, n5, xs5⟩ := T0
  obtain ⟨k6, a6, b6, n6, xs6⟩ := T1
  have hN2 := Tr.mk.inj hN
  obtain ⟨rfl, rfl, rfl, rfl, rfl⟩ := hN2
  obtain rfl : 2 = m3 := hm3
  clear hN
  obtain ⟨c0Y, c1Y, c2Y, c3Y, c4Y, hcY, hlY⟩ := liesL_at _ o 0 Y hll rfl
  obtain ⟨c0Z, c1Z, c2Z, c3Z, c4Z, hcZ, hlZ⟩ := liesL_at _ o 1 Z hll rfl
  have hcallY := fun W1 hW1 => IH Y (by simp) q _ hlY (hch Y (by simp)) W1 hW1 k5 a5 b5 n5 xs5 _ hT0 rfl
  have hcallZ := fun W1 hW1 => IH Z (by simp) q _ hlZ (hch Z (by simp)) W1 hW1 k6 a6 b6 n6 xs6 _ hT1 rfl
  obtain ⟨kY, aY, bY, nY, xsY⟩ := Y
  rw [liesT] at hlY
  obtain ⟨pY, capY, e2, _, _⟩ := hlY
  have e3 := Value.agg.inj e2
  simp only [Array.mk.injEq, List.cons.injEq, and_true] at e3
  obtain ⟨rfl, rfl, rfl, rfl, rfl⟩ := e3
  clear e2
  obtain ⟨kZ, aZ, bZ, nZ, xsZ⟩ := Z
  rw [liesT] at hlZ
  obtain ⟨pZ, capZ, e2, _, _⟩ := hlZ
  have e3 := Value.agg.inj e2
  simp only [Array.mk.injEq, List.cons.injEq, and_true] at e3
  obtain ⟨rfl, rfl, rfl, rfl, rfl⟩ := e3
  clear e2
  obtain ⟨mY, hmY⟩ : ∃ m, xsY.length = m := ⟨_, rfl⟩
  obtain ⟨mZ, hmZ⟩ : ∃ m, xsZ.length = m := ⟨_, rfl⟩
  obtain ⟨m5, hm5⟩ : ∃ m, xs5.length = m := ⟨_, rfl⟩
  obtain ⟨m6, hm6⟩ : ∃ m, xs6.length = m := ⟨_, rfl⟩
  rw [hmY, hm5] at hcallY
  rw [hmZ, hm6] at hcallZ
  rw [hmY] at hcY
  rw [hmZ] at hcZ
  clear hs hch hxs hxl hok IH hll hm5 hm6 hmY hmZ hT0 hT1
  obtain ⟨h1, h4, hBW, hsz⟩ := norm_boxes W (.int .i64 5) (.string a) (.string b) (.int .i64 n) (.slice (some ⟨g, o, none⟩) 2 cap)
  have hw2 : ∀ w2, w2 = (W.alloc (.cells #[.int .i64 5, .string a, .string b, .int .i64 n, .slice (some ⟨g, o, none⟩) 2 cap] 24)).alloc (.cells #[.int .i64 0, .string ⟨#[]⟩, .string ⟨#[]⟩, .int .i64 0, .slice none 0 0] 24) → Below w2.heap.size w2 w2.drew := fun w2 _ => (Below.refl _ _).drew
  have hd := hw2 _ rfl
  clear hw2
  have d1 := (hd.block W.heap.size (by rw [hsz]; omega)).trans h1
  have d4 := (hd.block (W.heap.size + 1) (by rw [hsz]; omega)).trans h4
  have hBd : Below W.heap.size W _ := hBW.trans (hd.mono hBW.size)
  have hsd : ((W.alloc (.cells #[.int .i64 5, .string a, .string b, .int .i64 n, .slice (some ⟨g, o, none⟩) 2 cap] 24)).alloc (.cells #[.int .i64 0, .string ⟨#[]⟩, .string ⟨#[]⟩, .int .i64 0, .slice none 0 0] 24)).drew.heap.size = W.heap.size + 2 := hsz
  have d1H : Hid (_ = _) := d1
  have d4H : Hid (_ = _) := d4
  have hBdH : Hid (Below W.heap.size W _) := hBd
  have hsdH : Hid (_ = W.heap.size + 2) := hsd
  clear h1 h4 hBW hsz hd d1 d4 hBd hsd
  go_enter Tryd.func39, Tryd.ntmps39
  go_wp2
  refine Tkc.region_anyC (C := fun w' => Below (W.heap.size + 1) (((W.alloc (.cells #[.int .i64 5, .string a, .string b, .int .i64 n, .slice (some ⟨g, o, none⟩) 2 cap] 24)).alloc (.cells #[.int .i64 0, .string ⟨#[]⟩, .string ⟨#[]⟩, .int .i64 0, .slice none 0 0] 24)).drew) w') (s := 19) (by kernel_rfl) ?_
  generalize ((W.alloc (.cells #[.int .i64 5, .string a, .string b, .int .i64 n, .slice (some ⟨g, o, none⟩) 2 cap] 24)).alloc (.cells #[.int .i64 0, .string ⟨#[]⟩, .string ⟨#[]⟩, .int .i64 0, .slice none 0 0] 24)).drew = wd at *
  have hB0 : Below w0.heap.size w0 wd := hB.trans (hBdH.out.mono hB.size)
  have hB0H : Hid (Below w0.heap.size w0 wd) := hB0
  have hcz : Below (W.heap.size + 1) wd wd := Below.refl _ _
  have hgW : g < W.heap.size := Nat.lt_of_lt_of_le hg hB.size
  obtain ⟨y0, y1, y2, y3, y4⟩ := box5 d1H.out
  have hcl : ∀ w', Below (W.heap.size + 1) wd w' → w'.cell? ⟨W.heap.size, 0, none⟩ = some (.int .i64 5) ∧ w'.cell? ⟨W.heap.size, 4, none⟩ = some (.slice (some ⟨g, o, none⟩) 2 cap) ∧ w'.cell? ⟨g, o, none⟩ = some (.int .i64 kY) ∧ w'.cell? ⟨g, o + 1, none⟩ = some (.string aY) ∧ w'.cell? ⟨g, o + 2, none⟩ = some (.string bY) ∧ w'.cell? ⟨g, o + 3, none⟩ = some (.int .i64 nY) ∧ w'.cell? ⟨g, o + 4, none⟩ = some (.slice pY mY capY) ∧ w'.cell? ⟨g, o + 5, none⟩ = some (.int .i64 kZ) ∧ w'.cell? ⟨g, o + 6, none⟩ = some (.string aZ) ∧ w'.cell? ⟨g, o + 7, none⟩ = some (.string bZ) ∧ w'.cell? ⟨g, o + 8, none⟩ = some (.int .i64 nZ) ∧ w'.cell? ⟨g, o + 9, none⟩ = some (.slice pZ mZ capZ) := by
    intro w' hw'
    have cc : ∀ of c, w0.cell? ⟨g, of, none⟩ = some c → w'.cell? ⟨g, of, none⟩ = some c := fun of c h => (hw'.cell (p := ⟨g, of, none⟩) (by show g < _; omega)).trans ((hB0.cell (p := ⟨g, of, none⟩) hg).trans h)
    exact ⟨(hw'.cell (p := ⟨W.heap.size, 0, none⟩) (by show W.heap.size < _; omega)).trans y0, (hw'.cell (p := ⟨W.heap.size, 4, none⟩) (by show W.heap.size < _; omega)).trans y4, cc _ _ (by simpa using hcY.1), cc _ _ (by simpa using hcY.2.1), cc _ _ (by simpa using hcY.2.2.1), cc _ _ (by simpa using hcY.2.2.2.1), cc _ _ (by simpa using hcY.2.2.2.2), cc _ _ (by simpa using hcZ.1), cc _ _ (by simpa [Nat.add_assoc] using hcZ.2.1), cc _ _ (by simpa [Nat.add_assoc] using hcZ.2.2.1), cc _ _ (by simpa [Nat.add_assoc] using hcZ.2.2.2.1), cc _ _ (by simpa [Nat.add_assoc] using hcZ.2.2.2.2)⟩
  clear hB0 y0 y1 y2 y3 y4 hcY hcZ hg hB hgW
  refine Tkc.takeC (i := 0) (v := .pointer (some ⟨W.heap.size, 0, none⟩)) rfl (by kernel_rfl) (by kernel_rfl) (by kernel_rfl) (fun _ _ _ h => h) (by decide) (by kernel_rfl) (by kernel_rfl) hcz ⟨by rfl, fun w hw => by obtain ⟨z0, z4, q0, q1, q2, q3, q4, u0, u1, u2, u3, u4⟩ := hcl w hw; go_simp⟩ ?_
  try go_frame
  refine Tkc.takeC (i := 1) (v := .int .i64 5) rfl (by kernel_rfl) (by kernel_rfl) (by kernel_rfl) (fun _ _ _ h => h) (by decide) (by kernel_rfl) (by kernel_rfl) hcz ⟨by rfl, fun w hw => by obtain ⟨z0, z4, q0, q1, q2, q3, q4, u0, u1, u2, u3, u4⟩ := hcl w hw; go_simp⟩ ?_
  try go_frame
  refine Tkc.takeC (i := 2) (v := .bool q) rfl (by kernel_rfl) (by kernel_rfl) (by kernel_rfl) (fun _ _ _ h => h) (by decide) (by kernel_rfl) (by kernel_rfl) hcz ⟨by rfl, fun w hw => by obtain ⟨z0, z4, q0, q1, q2, q3, q4, u0, u1, u2, u3, u4⟩ := hcl w hw; go_simp⟩ ?_
  try go_frame
  refine Tkc.takeC (i := 4) (v := .pointer (some ⟨W.heap.size, 4, none⟩)) rfl (by kernel_rfl) (by kernel_rfl) (by kernel_rfl) (fun _ _ _ h => h) (by decide) (by kernel_rfl) (by kernel_rfl) hcz ⟨by rfl, fun w hw => by obtain ⟨z0, z4, q0, q1, q2, q3, q4, u0, u1, u2, u3, u4⟩ := hcl w hw; go_simp⟩ ?_
  try go_frame
  refine Tkc.takeC (i := 5) (v := .slice (some ⟨g, o, none⟩) 2 cap) rfl (by kernel_rfl) (by kernel_rfl) (by kernel_rfl) (fun _ _ _ h => h) (by decide) (by kernel_rfl) (by kernel_rfl) hcz ⟨by rfl, fun w hw => by obtain ⟨z0, z4, q0, q1, q2, q3, q4, u0, u1, u2, u3, u4⟩ := hcl w hw; go_simp⟩ ?_
  try go_frame
  refine Tkc.takeC (i := 6) (v := .pointer (some ⟨g, o, none⟩)) rfl (by kernel_rfl) (by kernel_rfl) (by kernel_rfl) (fun _ _ _ h => h) (by decide) (by kernel_rfl) (by kernel_rfl) hcz ⟨by rfl, fun w hw => by obtain ⟨z0, z4, q0, q1, q2, q3, q4, u0, u1, u2, u3, u4⟩ := hcl w hw; go_simp⟩ ?_
  try go_frame
  refine Tkc.takeC (i := 7) (v := .agg #[.int .i64 kY, .string aY, .string bY, .int .i64 nY, .slice pY mY capY]) rfl (by kernel_rfl) (by kernel_rfl) (by kernel_rfl) (fun _ _ _ h => h) (by decide) (by kernel_rfl) (by kernel_rfl) hcz ⟨by rfl, fun w hw => by obtain ⟨z0, z4, q0, q1, q2, q3, q4, u0, u1, u2, u3, u4⟩ := hcl w hw; go_simp⟩ ?_
  try go_frame
  refine Tkc.takeC (i := 8) (v := .bool q) rfl (by kernel_rfl) (by kernel_rfl) (by kernel_rfl) (fun _ _ _ h => h) (by decide) (by kernel_rfl) (by kernel_rfl) hcz ⟨by rfl, fun w hw => by obtain ⟨z0, z4, q0, q1, q2, q3, q4, u0, u1, u2, u3, u4⟩ := hcl w hw; go_simp⟩ ?_
  try go_frame
  refine Tkc.takeC (i := 10) (v := .pointer (some ⟨W.heap.size, 4, none⟩)) rfl (by kernel_rfl) (by kernel_rfl) (by kernel_rfl) (fun _ _ _ h => h) (by decide) (by kernel_rfl) (by kernel_rfl) hcz ⟨by rfl, fun w hw => by obtain ⟨z0, z4, q0, q1, q2, q3, q4, u0, u1, u2, u3, u4⟩ := hcl w hw; go_simp⟩ ?_
  try go_frame
  refine Tkc.takeC (i := 11) (v := .slice (some ⟨g, o, none⟩) 2 cap) rfl (by kernel_rfl) (by kernel_rfl) (by kernel_rfl) (fun _ _ _ h => h) (by decide) (by kernel_rfl) (by kernel_rfl) hcz ⟨by rfl, fun w hw => by obtain ⟨z0, z4, q0, q1, q2, q3, q4, u0, u1, u2, u3, u4⟩ := hcl w hw; go_simp⟩ ?_
  try go_frame
  refine Tkc.takeC (i := 12) (v := .pointer (some ⟨g, o + 5, none⟩)) rfl (by kernel_rfl) (by kernel_rfl) (by kernel_rfl) (fun _ _ _ h => h) (by decide) (by kernel_rfl) (by kernel_rfl) hcz ⟨by rfl, fun w hw => by obtain ⟨z0, z4, q0, q1, q2, q3, q4, u0, u1, u2, u3, u4⟩ := hcl w hw; go_simp⟩ ?_
  try go_frame
  refine Tkc.takeC (i := 13) (v := .agg #[.int .i64 kZ, .string aZ, .string bZ, .int .i64 nZ, .slice pZ mZ capZ]) rfl (by kernel_rfl) (by kernel_rfl) (by kernel_rfl) (fun _ _ _ h => h) (by decide) (by kernel_rfl) (by kernel_rfl) hcz ⟨by rfl, fun w hw => by obtain ⟨z0, z4, q0, q1, q2, q3, q4, u0, u1, u2, u3, u4⟩ := hcl w hw; go_simp⟩ ?_
  try go_frame
  refine Tkc.takeC (i := 14) (v := .bool q) rfl (by kernel_rfl) (by kernel_rfl) (by kernel_rfl) (fun _ _ _ h => h) (by decide) (by kernel_rfl) (by kernel_rfl) hcz ⟨by rfl, fun w hw => by obtain ⟨z0, z4, q0, q1, q2, q3, q4, u0, u1, u2, u3, u4⟩ := hcl w hw; go_simp⟩ ?_
  try go_frame
  clear hcl
  refine Tkc.onlyC (i := 3) rfl (by kernel_rfl) (fun _ => hcz) (by rfl) (fun K hK => ?_)
  go_simp
  refine (turned_any _ _ _).mono ?_
  rintro e w2 ⟨rfl, hw2⟩
  have hw3 := hw2.symm
  subst hw3
  refine hK _ _ ?_
  clear hK K
  try go_frame
  refine Tkc.onlyC (i := 9) rfl (by kernel_rfl) (fun _ => hcz) (by rfl) (fun K hK => ?_)
  go_simp
  refine (hcallY wd hB0H.out).mono ?_
  rintro e w3 ⟨⟨p5, cap5, rfl, hl5⟩, hb3⟩
  have hl5H : Hid (liesF _ w3 _ _) := hl5
  have hcz3 : Below (W.heap.size + 1) wd w3 := hb3.mono (by rw [hsdH.out]; omega)
  have hb3H : Hid (Below wd.heap.size wd w3) := hb3
  clear hcallY hl5 hb3 hw2
  refine hK _ _ ?_
  clear hK K
  try go_frame
  refine Tkc.onlyC (i := 15) rfl (by kernel_rfl) (fun _ => hcz3) (by rfl) (fun K hK => ?_)
  go_simp
  refine (hcallZ w3 (hB0H.out.trans (hb3H.out.mono hB0H.out.size))).mono ?_
  rintro e w4 ⟨⟨p6, cap6, rfl, hl6⟩, hb4⟩
  have hl6H : Hid (liesF _ w4 _ _) := hl6
  have hb34 : Below wd.heap.size wd w4 := hb3H.out.trans (hb4.mono hb3H.out.size)
  have hcz4 : Below (W.heap.size + 1) wd w4 := hb34.mono (by rw [hsdH.out]; omega)
  have hb4H : Hid (Below w3.heap.size w3 w4) := hb4
  have hb34H : Hid (Below wd.heap.size wd w4) := hb34
  clear hcallZ hl6 hb4 hb34
  refine hK _ _ ?_
  clear hK K
  try go_frame
  refine Tkc.onlyC (i := 16) rfl (by kernel_rfl) (fun _ => hcz4) (by rfl) (fun K hK => ?_)
  go_simp
  have hbA : Below w4.heap.size w4 (w4.alloc (.cells #[.int .i64 k5, .string a5, .string b5, .int .i64 n5, .slice p5 m5 cap5, .int .i64 k6, .string a6, .string b6, .int .i64 n6, .slice p6 m6 cap6] 24)) := (Below.refl _ _).alloc (Nat.le_refl _) _
  have hb5 : Below wd.heap.size wd (w4.alloc (.cells #[.int .i64 k5, .string a5, .string b5, .int .i64 n5, .slice p5 m5 cap5, .int .i64 k6, .string a6, .string b6, .int .i64 n6, .slice p6 m6 cap6] 24)) := hb34H.out.trans (hbA.mono hb34H.out.size)
  have hcz5 : Below (W.heap.size + 1) wd (w4.alloc (.cells #[.int .i64 k5, .string a5, .string b5, .int .i64 n5, .slice p5 m5 cap5, .int .i64 k6, .string a6, .string b6, .int .i64 n6, .slice p6 m6 cap6] 24)) := hb5.mono (by rw [hsdH.out]; omega)
  have g4 := (hb5.block (W.heap.size + 1) (by rw [hsdH.out]; omega)).trans d4H.out
  have hb5H : Hid (Below wd.heap.size wd (w4.alloc (.cells #[.int .i64 k5, .string a5, .string b5, .int .i64 n5, .slice p5 m5 cap5, .int .i64 k6, .string a6, .string b6, .int .i64 n6, .slice p6 m6 cap6] 24))) := hb5
  have hf5 : Hid (liesF wd.heap.size (w4.alloc (.cells #[.int .i64 k5, .string a5, .string b5, .int .i64 n5, .slice p5 m5 cap5, .int .i64 k6, .string a6, .string b6, .int .i64 n6, .slice p6 m6 cap6] 24)) (.mk (tuK 5 q) ⟨#[]⟩ ⟨#[]⟩ 0 [.mk k5 a5 b5 n5 xs5, .mk k6 a6 b6 n6 xs6]) (.agg #[.int .i64 (tuK 5 q), .string ⟨#[]⟩, .string ⟨#[]⟩, .int .i64 0, .slice (some ⟨w4.heap.size, 0, none⟩) 2 2])) := by
    have hle : wd.heap.size ≤ w4.heap.size := hb34H.out.size
    exact liesF_of2 (by omega) (heap_alloc_new _ _) (((hl5H.out.below hb4H.out)).below hbA) ((hl6H.out.le hb3H.out.size).below hbA) _ _ _ _ _
  generalize w4.alloc (.cells #[.int .i64 k5, .string a5, .string b5, .int .i64 n5, .slice p5 m5 cap5, .int .i64 k6, .string a6, .string b6, .int .i64 n6, .slice p6 m6 cap6] 24) = w5 at *
  clear hbA hb5
  generalize w4.heap.size = gN at *
  refine hK _ _ ?_
  clear hK K
  try go_frame
  refine Tkc.onlyC (i := 17) rfl (by kernel_rfl) (fun _ => hcz5) (by rfl) (fun K hK => ?_)
  go_simp
  refine hK _ _ ?_
  clear hK K
  try go_frame
  refine Tkc.onlyC (i := 18) rfl (by kernel_rfl) (fun _ => hcz5) (by rfl) (fun K hK => ?_)
  refine wp_store_row 24 _ _ rfl (W.heap.size + 1) #[.int .i64 (tuK 5 q), .string ⟨#[]⟩, .string ⟨#[]⟩, .int .i64 0, .slice (some ⟨gN, 0, none⟩) 2 2] rfl rfl _ _ g4 (ask_info _ rfl) rfl (ask_one _ _ _ _ _ _ _) ?_
  refine hK _ _ ?_
  clear hK K
  try go_frame
  have hcz6 : Below (W.heap.size + 1) wd (w5.setRow (W.heap.size + 1) #[.int .i64 (tuK 5 q), .string ⟨#[]⟩, .string ⟨#[]⟩, .int .i64 0, .slice (some ⟨gN, 0, none⟩) 2 2]) := below_row hcz5 (by omega)
  refine Tkc.doneC (by kernel_rfl) (fun _ => hcz6) ?_
  go_wp2
  refine bodyPost_ret (results_cell_row Tryd.results39 _ _ (W.heap.size + 1) _ #[.int .i64 (tuK 5 q), .string ⟨#[]⟩, .string ⟨#[]⟩, .int .i64 0, .slice (some ⟨gN, 0, none⟩) 2 2] (0, 0) _ rfl (setRow_heap w5 (W.heap.size + 1) _ _ _ _ g4) Tryd.underlying24 rfl (ask_info _ rfl)) rfl ?_
  exact ⟨⟨_, _, rfl, (hf5.out.row (by rw [hsdH.out]; omega) _).le (by rw [hsdH.out]; omega)⟩, below_row (hBdH.out.trans (hb5H.out.mono hBdH.out.size)) (by omega)⟩

set_option maxHeartbeats 8000000 in
set_option maxRecDepth 100000 in
theorem norm_two6 (w0 : World) (a b : ByteArray) (n : Int) (xs : List Tr) (IH : ∀ x ∈ xs, NormOk w0 x) : NormOk w0 (.mk 6 a b n xs) := by
  intro q v hv hok W hB k3 a3 b3 n3 xs3 m3 hN hm3
  have hs := (chE_zero (okT_self hok)).2.1
  have hch := fun x hx => okT_child hok (x := x) hx
  rw [liesT] at hv
  obtain ⟨p, cap, rfl, hxl, hxs⟩ := hv
  obtain ⟨Y, Z, rfl⟩ : ∃ Y Z, xs = [Y, Z] := by
    have hlen : xs.length = 2 := by
      rw [show inK 6 = 2 from rfl] at hs
      exact Int.ofNat.inj hs
    exact two_tr hlen
  obtain ⟨g, o, rfl, hg, hll⟩ := hxs.resolve_left (by simp)
  rw [nrT, if_neg (by decide), if_pos (by decide)] at hN
  obtain ⟨T0, hT0⟩ : ∃ T0, nrT q Y = T0 := ⟨_, rfl⟩
  obtain ⟨T1, hT1⟩ : ∃ T1, nrT q Z = T1 := ⟨_, rfl⟩
  rw [nrL, nrL, nrL, hT0, hT1] at hN
  obtain ⟨k5, a5, b5, n5, xs5⟩ := T0
  obtain ⟨k6, a6, b6, n6, xs6⟩ := T1
  have hN2 := Tr.mk.inj hN
  obtain ⟨rfl, rfl, rfl, rfl, rfl⟩ := hN2
  obtain rfl : 2 = m3 := hm3
  clear hN
  obtain ⟨c0Y, c1Y, c2Y, c3Y, c4Y, hcY, hlY⟩ := liesL_at _ o 0 Y hll rfl
  obtain ⟨c0Z, c1Z, c2Z, c3Z, c4Z, hcZ, hlZ⟩ := liesL_at _ o 1 Z hll rfl
  have hcallY := fun W1 hW1 => IH Y (by simp) q _ hlY (hch Y (by simp)) W1 hW1 k5 a5 b5 n5 xs5 _ hT0 rfl
  have hcallZ := fun W1 hW1 => IH Z (by simp) q _ hlZ (hch Z (by simp)) W1 hW1 k6 a6 b6 n6 xs6 _ hT1 rfl
  obtain ⟨kY, aY, bY, nY, xsY⟩ := Y
  rw [liesT] at hlY
  obtain ⟨pY, capY, e2, _, _⟩ := hlY
  have e3 := Value.agg.inj e2
  simp only [Array.mk.injEq, List.cons.injEq, and_true] at e3
  obtain ⟨rfl, rfl, rfl, rfl, rfl⟩ := e3
  clear e2
  obtain ⟨kZ, aZ, bZ, nZ, xsZ⟩ := Z
  rw [liesT] at hlZ
  obtain ⟨pZ, capZ, e2, _, _⟩ := hlZ
  have e3 := Value.agg.inj e2
  simp only [Array.mk.injEq, List.cons.injEq, and_true] at e3
  obtain ⟨rfl, rfl, rfl, rfl, rfl⟩ := e3
  clear e2
  obtain ⟨mY, hmY⟩ : ∃ m, xsY.length = m := ⟨_, rfl⟩
  obtain ⟨mZ, hmZ⟩ : ∃ m, xsZ.length = m := ⟨_, rfl⟩
  obtain ⟨m5, hm5⟩ : ∃ m, xs5.length = m := ⟨_, rfl⟩
  obtain ⟨m6, hm6⟩ : ∃ m, xs6.length = m := ⟨_, rfl⟩
  rw [hmY, hm5] at hcallY
  rw [hmZ, hm6] at hcallZ
  rw [hmY] at hcY
  rw [hmZ] at hcZ
  clear hs hch hxs hxl hok IH hll hm5 hm6 hmY hmZ hT0 hT1
  obtain ⟨h1, h4, hBW, hsz⟩ := norm_boxes W (.int .i64 6) (.string a) (.string b) (.int .i64 n) (.slice (some ⟨g, o, none⟩) 2 cap)
  have hw2 : ∀ w2, w2 = (W.alloc (.cells #[.int .i64 6, .string a, .string b, .int .i64 n, .slice (some ⟨g, o, none⟩) 2 cap] 24)).alloc (.cells #[.int .i64 0, .string ⟨#[]⟩, .string ⟨#[]⟩, .int .i64 0, .slice none 0 0] 24) → Below w2.heap.size w2 w2.drew := fun w2 _ => (Below.refl _ _).drew
  have hd := hw2 _ rfl
  clear hw2
  have d1 := (hd.block W.heap.size (by rw [hsz]; omega)).trans h1
  have d4 := (hd.block (W.heap.size + 1) (by rw [hsz]; omega)).trans h4
  have hBd : Below W.heap.size W _ := hBW.trans (hd.mono hBW.size)
  have hsd : ((W.alloc (.cells #[.int .i64 6, .string a, .string b, .int .i64 n, .slice (some ⟨g, o, none⟩) 2 cap] 24)).alloc (.cells #[.int .i64 0, .string ⟨#[]⟩, .string ⟨#[]⟩, .int .i64 0, .slice none 0 0] 24)).drew.heap.size = W.heap.size + 2 := hsz
  have d1H : Hid (_ = _) := d1
  have d4H : Hid (_ = _) := d4
  have hBdH : Hid (Below W.heap.size W _) := hBd
  have hsdH : Hid (_ = W.heap.size + 2) := hsd
  clear h1 h4 hBW hsz hd d1 d4 hBd hsd
  go_enter Tryd.func39, Tryd.ntmps39
  go_wp2
  refine Tkc.region_anyC (C := fun w' => Below (W.heap.size + 1) (((W.alloc (.cells #[.int .i64 6, .string a, .string b, .int .i64 n, .slice (some ⟨g, o, none⟩) 2 cap] 24)).alloc (.cells #[.int .i64 0, .string ⟨#[]⟩, .string ⟨#[]⟩, .int .i64 0, .slice none 0 0] 24)).drew) w') (s := 19) (by kernel_rfl) ?_
  generalize ((W.alloc (.cells #[.int .i64 6, .string a, .string b, .int .i64 n, .slice (some ⟨g, o, none⟩) 2 cap] 24)).alloc (.cells #[.int .i64 0, .string ⟨#[]⟩, .string ⟨#[]⟩, .int .i64 0, .slice none 0 0] 24)).drew = wd at *
  have hB0 : Below w0.heap.size w0 wd := hB.trans (hBdH.out.mono hB.size)
  have hB0H : Hid (Below w0.heap.size w0 wd) := hB0
  have hcz : Below (W.heap.size + 1) wd wd := Below.refl _ _
  have hgW : g < W.heap.size := Nat.lt_of_lt_of_le hg hB.size
  obtain ⟨y0, y1, y2, y3, y4⟩ := box5 d1H.out
  have hcl : ∀ w', Below (W.heap.size + 1) wd w' → w'.cell? ⟨W.heap.size, 0, none⟩ = some (.int .i64 6) ∧ w'.cell? ⟨W.heap.size, 4, none⟩ = some (.slice (some ⟨g, o, none⟩) 2 cap) ∧ w'.cell? ⟨g, o, none⟩ = some (.int .i64 kY) ∧ w'.cell? ⟨g, o + 1, none⟩ = some (.string aY) ∧ w'.cell? ⟨g, o + 2, none⟩ = some (.string bY) ∧ w'.cell? ⟨g, o + 3, none⟩ = some (.int .i64 nY) ∧ w'.cell? ⟨g, o + 4, none⟩ = some (.slice pY mY capY) ∧ w'.cell? ⟨g, o + 5, none⟩ = some (.int .i64 kZ) ∧ w'.cell? ⟨g, o + 6, none⟩ = some (.string aZ) ∧ w'.cell? ⟨g, o + 7, none⟩ = some (.string bZ) ∧ w'.cell? ⟨g, o + 8, none⟩ = some (.int .i64 nZ) ∧ w'.cell? ⟨g, o + 9, none⟩ = some (.slice pZ mZ capZ) := by
    intro w' hw'
    have cc : ∀ of c, w0.cell? ⟨g, of, none⟩ = some c → w'.cell? ⟨g, of, none⟩ = some c := fun of c h => (hw'.cell (p := ⟨g, of, none⟩) (by show g < _; omega)).trans ((hB0.cell (p := ⟨g, of, none⟩) hg).trans h)
    exact ⟨(hw'.cell (p := ⟨W.heap.size, 0, none⟩) (by show W.heap.size < _; omega)).trans y0, (hw'.cell (p := ⟨W.heap.size, 4, none⟩) (by show W.heap.size < _; omega)).trans y4, cc _ _ (by simpa using hcY.1), cc _ _ (by simpa using hcY.2.1), cc _ _ (by simpa using hcY.2.2.1), cc _ _ (by simpa using hcY.2.2.2.1), cc _ _ (by simpa using hcY.2.2.2.2), cc _ _ (by simpa using hcZ.1), cc _ _ (by simpa [Nat.add_assoc] using hcZ.2.1), cc _ _ (by simpa [Nat.add_assoc] using hcZ.2.2.1), cc _ _ (by simpa [Nat.add_assoc] using hcZ.2.2.2.1), cc _ _ (by simpa [Nat.add_assoc] using hcZ.2.2.2.2)⟩
  clear hB0 y0 y1 y2 y3 y4 hcY hcZ hg hB hgW
  refine Tkc.takeC (i := 0) (v := .pointer (some ⟨W.heap.size, 0, none⟩)) rfl (by kernel_rfl) (by kernel_rfl) (by kernel_rfl) (fun _ _ _ h => h) (by decide) (by kernel_rfl) (by kernel_rfl) hcz ⟨by rfl, fun w hw => by obtain ⟨z0, z4, q0, q1, q2, q3, q4, u0, u1, u2, u3, u4⟩ := hcl w hw; go_simp⟩ ?_
  try go_frame
  refine Tkc.takeC (i := 1) (v := .int .i64 6) rfl (by kernel_rfl) (by kernel_rfl) (by kernel_rfl) (fun _ _ _ h => h) (by decide) (by kernel_rfl) (by kernel_rfl) hcz ⟨by rfl, fun w hw => by obtain ⟨z0, z4, q0, q1, q2, q3, q4, u0, u1, u2, u3, u4⟩ := hcl w hw; go_simp⟩ ?_
  try go_frame
  refine Tkc.takeC (i := 2) (v := .bool q) rfl (by kernel_rfl) (by kernel_rfl) (by kernel_rfl) (fun _ _ _ h => h) (by decide) (by kernel_rfl) (by kernel_rfl) hcz ⟨by rfl, fun w hw => by obtain ⟨z0, z4, q0, q1, q2, q3, q4, u0, u1, u2, u3, u4⟩ := hcl w hw; go_simp⟩ ?_
  try go_frame
  refine Tkc.takeC (i := 4) (v := .pointer (some ⟨W.heap.size, 4, none⟩)) rfl (by kernel_rfl) (by kernel_rfl) (by kernel_rfl) (fun _ _ _ h => h) (by decide) (by kernel_rfl) (by kernel_rfl) hcz ⟨by rfl, fun w hw => by obtain ⟨z0, z4, q0, q1, q2, q3, q4, u0, u1, u2, u3, u4⟩ := hcl w hw; go_simp⟩ ?_
  try go_frame
  refine Tkc.takeC (i := 5) (v := .slice (some ⟨g, o, none⟩) 2 cap) rfl (by kernel_rfl) (by kernel_rfl) (by kernel_rfl) (fun _ _ _ h => h) (by decide) (by kernel_rfl) (by kernel_rfl) hcz ⟨by rfl, fun w hw => by obtain ⟨z0, z4, q0, q1, q2, q3, q4, u0, u1, u2, u3, u4⟩ := hcl w hw; go_simp⟩ ?_
  try go_frame
  refine Tkc.takeC (i := 6) (v := .pointer (some ⟨g, o, none⟩)) rfl (by kernel_rfl) (by kernel_rfl) (by kernel_rfl) (fun _ _ _ h => h) (by decide) (by kernel_rfl) (by kernel_rfl) hcz ⟨by rfl, fun w hw => by obtain ⟨z0, z4, q0, q1, q2, q3, q4, u0, u1, u2, u3, u4⟩ := hcl w hw; go_simp⟩ ?_
  try go_frame
  refine Tkc.takeC (i := 7) (v := .agg #[.int .i64 kY, .string aY, .string bY, .int .i64 nY, .slice pY mY capY]) rfl (by kernel_rfl) (by kernel_rfl) (by kernel_rfl) (fun _ _ _ h => h) (by decide) (by kernel_rfl) (by kernel_rfl) hcz ⟨by rfl, fun w hw => by obtain ⟨z0, z4, q0, q1, q2, q3, q4, u0, u1, u2, u3, u4⟩ := hcl w hw; go_simp⟩ ?_
  try go_frame
  refine Tkc.takeC (i := 8) (v := .bool q) rfl (by kernel_rfl) (by kernel_rfl) (by kernel_rfl) (fun _ _ _ h => h) (by decide) (by kernel_rfl) (by kernel_rfl) hcz ⟨by rfl, fun w hw => by obtain ⟨z0, z4, q0, q1, q2, q3, q4, u0, u1, u2, u3, u4⟩ := hcl w hw; go_simp⟩ ?_
  try go_frame
  refine Tkc.takeC (i := 10) (v := .pointer (some ⟨W.heap.size, 4, none⟩)) rfl (by kernel_rfl) (by kernel_rfl) (by kernel_rfl) (fun _ _ _ h => h) (by decide) (by kernel_rfl) (by kernel_rfl) hcz ⟨by rfl, fun w hw => by obtain ⟨z0, z4, q0, q1, q2, q3, q4, u0, u1, u2, u3, u4⟩ := hcl w hw; go_simp⟩ ?_
  try go_frame
  refine Tkc.takeC (i := 11) (v := .slice (some ⟨g, o, none⟩) 2 cap) rfl (by kernel_rfl) (by kernel_rfl) (by kernel_rfl) (fun _ _ _ h => h) (by decide) (by kernel_rfl) (by kernel_rfl) hcz ⟨by rfl, fun w hw => by obtain ⟨z0, z4, q0, q1, q2, q3, q4, u0, u1, u2, u3, u4⟩ := hcl w hw; go_simp⟩ ?_
  try go_frame
  refine Tkc.takeC (i := 12) (v := .pointer (some ⟨g, o + 5, none⟩)) rfl (by kernel_rfl) (by kernel_rfl) (by kernel_rfl) (fun _ _ _ h => h) (by decide) (by kernel_rfl) (by kernel_rfl) hcz ⟨by rfl, fun w hw => by obtain ⟨z0, z4, q0, q1, q2, q3, q4, u0, u1, u2, u3, u4⟩ := hcl w hw; go_simp⟩ ?_
  try go_frame
  refine Tkc.takeC (i := 13) (v := .agg #[.int .i64 kZ, .string aZ, .string bZ, .int .i64 nZ, .slice pZ mZ capZ]) rfl (by kernel_rfl) (by kernel_rfl) (by kernel_rfl) (fun _ _ _ h => h) (by decide) (by kernel_rfl) (by kernel_rfl) hcz ⟨by rfl, fun w hw => by obtain ⟨z0, z4, q0, q1, q2, q3, q4, u0, u1, u2, u3, u4⟩ := hcl w hw; go_simp⟩ ?_
  try go_frame
  refine Tkc.takeC (i := 14) (v := .bool q) rfl (by kernel_rfl) (by kernel_rfl) (by kernel_rfl) (fun _ _ _ h => h) (by decide) (by kernel_rfl) (by kernel_rfl) hcz ⟨by rfl, fun w hw => by obtain ⟨z0, z4, q0, q1, q2, q3, q4, u0, u1, u2, u3, u4⟩ := hcl w hw; go_simp⟩ ?_
  try go_frame
  clear hcl
  refine Tkc.onlyC (i := 3) rfl (by kernel_rfl) (fun _ => hcz) (by rfl) (fun K hK => ?_)
  go_simp
  refine (turned_any _ _ _).mono ?_
  rintro e w2 ⟨rfl, hw2⟩
  have hw3 := hw2.symm
  subst hw3
  refine hK _ _ ?_
  clear hK K
  try go_frame
  refine Tkc.onlyC (i := 9) rfl (by kernel_rfl) (fun _ => hcz) (by rfl) (fun K hK => ?_)
  go_simp
  refine (hcallY wd hB0H.out).mono ?_
  rintro e w3 ⟨⟨p5, cap5, rfl, hl5⟩, hb3⟩
  have hl5H : Hid (liesF _ w3 _ _) := hl5
  have hcz3 : Below (W.heap.size + 1) wd w3 := hb3.mono (by rw [hsdH.out]; omega)
  have hb3H : Hid (Below wd.heap.size wd w3) := hb3
  clear hcallY hl5 hb3 hw2
  refine hK _ _ ?_
  clear hK K
  try go_frame
  refine Tkc.onlyC (i := 15) rfl (by kernel_rfl) (fun _ => hcz3) (by rfl) (fun K hK => ?_)
  go_simp
  refine (hcallZ w3 (hB0H.out.trans (hb3H.out.mono hB0H.out.size))).mono ?_
  rintro e w4 ⟨⟨p6, cap6, rfl, hl6⟩, hb4⟩
  have hl6H : Hid (liesF _ w4 _ _) := hl6
  have hb34 : Below wd.heap.size wd w4 := hb3H.out.trans (hb4.mono hb3H.out.size)
  have hcz4 : Below (W.heap.size + 1) wd w4 := hb34.mono (by rw [hsdH.out]; omega)
  have hb4H : Hid (Below w3.heap.size w3 w4) := hb4
  have hb34H : Hid (Below wd.heap.size wd w4) := hb34
  clear hcallZ hl6 hb4 hb34
  refine hK _ _ ?_
  clear hK K
  try go_frame
  refine Tkc.onlyC (i := 16) rfl (by kernel_rfl) (fun _ => hcz4) (by rfl) (fun K hK => ?_)
  go_simp
  have hbA : Below w4.heap.size w4 (w4.alloc (.cells #[.int .i64 k5, .string a5, .string b5, .int .i64 n5, .slice p5 m5 cap5, .int .i64 k6, .string a6, .string b6, .int .i64 n6, .slice p6 m6 cap6] 24)) := (Below.refl _ _).alloc (Nat.le_refl _) _
  have hb5 : Below wd.heap.size wd (w4.alloc (.cells #[.int .i64 k5, .string a5, .string b5, .int .i64 n5, .slice p5 m5 cap5, .int .i64 k6, .string a6, .string b6, .int .i64 n6, .slice p6 m6 cap6] 24)) := hb34H.out.trans (hbA.mono hb34H.out.size)
  have hcz5 : Below (W.heap.size + 1) wd (w4.alloc (.cells #[.int .i64 k5, .string a5, .string b5, .int .i64 n5, .slice p5 m5 cap5, .int .i64 k6, .string a6, .string b6, .int .i64 n6, .slice p6 m6 cap6] 24)) := hb5.mono (by rw [hsdH.out]; omega)
  have g4 := (hb5.block (W.heap.size + 1) (by rw [hsdH.out]; omega)).trans d4H.out
  have hb5H : Hid (Below wd.heap.size wd (w4.alloc (.cells #[.int .i64 k5, .string a5, .string b5, .int .i64 n5, .slice p5 m5 cap5, .int .i64 k6, .string a6, .string b6, .int .i64 n6, .slice p6 m6 cap6] 24))) := hb5
  have hf5 : Hid (liesF wd.heap.size (w4.alloc (.cells #[.int .i64 k5, .string a5, .string b5, .int .i64 n5, .slice p5 m5 cap5, .int .i64 k6, .string a6, .string b6, .int .i64 n6, .slice p6 m6 cap6] 24)) (.mk (tuK 6 q) ⟨#[]⟩ ⟨#[]⟩ 0 [.mk k5 a5 b5 n5 xs5, .mk k6 a6 b6 n6 xs6]) (.agg #[.int .i64 (tuK 6 q), .string ⟨#[]⟩, .string ⟨#[]⟩, .int .i64 0, .slice (some ⟨w4.heap.size, 0, none⟩) 2 2])) := by
    have hle : wd.heap.size ≤ w4.heap.size := hb34H.out.size
    exact liesF_of2 (by omega) (heap_alloc_new _ _) (((hl5H.out.below hb4H.out)).below hbA) ((hl6H.out.le hb3H.out.size).below hbA) _ _ _ _ _
  generalize w4.alloc (.cells #[.int .i64 k5, .string a5, .string b5, .int .i64 n5, .slice p5 m5 cap5, .int .i64 k6, .string a6, .string b6, .int .i64 n6, .slice p6 m6 cap6] 24) = w5 at *
  clear hbA hb5
  generalize w4.heap.size = gN at *
  refine hK _ _ ?_
  clear hK K
  try go_frame
  refine Tkc.onlyC (i := 17) rfl (by kernel_rfl) (fun _ => hcz5) (by rfl) (fun K hK => ?_)
  go_simp
  refine hK _ _ ?_
  clear hK K
  try go_frame
  refine Tkc.onlyC (i := 18) rfl (by kernel_rfl) (fun _ => hcz5) (by rfl) (fun K hK => ?_)
  refine wp_store_row 24 _ _ rfl (W.heap.size + 1) #[.int .i64 (tuK 6 q), .string ⟨#[]⟩, .string ⟨#[]⟩, .int .i64 0, .slice (some ⟨gN, 0, none⟩) 2 2] rfl rfl _ _ g4 (ask_info _ rfl) rfl (ask_one _ _ _ _ _ _ _) ?_
  refine hK _ _ ?_
  clear hK K
  try go_frame
  have hcz6 : Below (W.heap.size + 1) wd (w5.setRow (W.heap.size + 1) #[.int .i64 (tuK 6 q), .string ⟨#[]⟩, .string ⟨#[]⟩, .int .i64 0, .slice (some ⟨gN, 0, none⟩) 2 2]) := below_row hcz5 (by omega)
  refine Tkc.doneC (by kernel_rfl) (fun _ => hcz6) ?_
  go_wp2
  refine bodyPost_ret (results_cell_row Tryd.results39 _ _ (W.heap.size + 1) _ #[.int .i64 (tuK 6 q), .string ⟨#[]⟩, .string ⟨#[]⟩, .int .i64 0, .slice (some ⟨gN, 0, none⟩) 2 2] (0, 0) _ rfl (setRow_heap w5 (W.heap.size + 1) _ _ _ _ g4) Tryd.underlying24 rfl (ask_info _ rfl)) rfl ?_
  exact ⟨⟨_, _, rfl, (hf5.out.row (by rw [hsdH.out]; omega) _).le (by rw [hsdH.out]; omega)⟩, below_row (hBdH.out.trans (hb5H.out.mono hBdH.out.size)) (by omega)⟩

end Go.Proofs.YtelepamnlpebgaaDoor
