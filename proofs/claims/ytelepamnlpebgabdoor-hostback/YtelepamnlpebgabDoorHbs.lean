/- Best's closure, slices.MinFunc, host.Best: walked. -/
import Derived.Test.YtelepamnlpebgabDoorHbt
namespace Go.Proofs.YtelepamnlpebgabDoor
open Go.RowKit Go.Shelf Akm Ndm
set_option linter.unusedSectionVars false
set_option linter.unusedVariables false

/-- What is left of the host of a number. -/
def lfA (l : List Ht) (d : N3) (i : Nat) : N3 := match l[i]? with
  | some h => lfR h.hs h.us d
  | none => nz
theorem lfA_at {l : List Ht} {d : N3} {i : Nat} {h : Ht} (hx : l[i]? = some h) : lfA l d i = lfR h.hs h.us d := by unfold lfA; rw [hx]
def mnG (f : Nat → N3) : Nat → List Nat → Nat
  | m, [] => m
  | m, i :: r => mnG f (if lx (f i) (f m) < 0 then i else m) r

theorem host_at {w : World} {q : Option Addr} {l : List Ht} (h : Hsts w q l) {j : Nat} {x : Ht} (hx : l[j]? = some x) : ∃ g o pl cl, q = some ⟨g, o, none⟩ ∧ g < w.heap.size ∧ cell8 w g (o + j * 8) x pl cl ∧ Lbs w pl x.L ∧ ((x.L.length : Int) ≤ 9223372036854775807 ∧ x.L.length ≤ cl) := by
  obtain ⟨g, o, rfl, hg, hc⟩ := h.resolve_left (fun e => by rw [e] at hx; simp at hx)
  obtain ⟨pl, cl, h1, h2, h3⟩ := hc j x hx
  exact ⟨g, o, pl, cl, rfl, hg, h1, h2, h3⟩

set_option maxHeartbeats 4000000 in
set_option maxRecDepth 100000 in
theorem best1_any (l : List Ht) (q : Option Addr) (nl c gq gd : Nat) (hnl : l.length = nl) (d : N3) (w : World) (hl : Hsts w q l) (hq : w.heap[gq]? = some (.cells #[.slice q nl c] 22 (0, 0))) (hd : w.heap[gd]? = some (.cells #[.int .i64 d.x, .int .i64 d.y, .int .i64 d.z] 27 (0, 0))) (i k : Nat) (hi : i < nl) (hk : k < nl) (hn30 : nl ≤ 30) (E : Int) (hE : lx (lfA l d i) (lfA l d k) = E) :
    Calls Tryd.prog 44 #[.int .i64 (i : Int), .int .i64 (k : Int), .pointer (some ⟨gq, 0, none⟩), .pointer (some ⟨gd, 0, none⟩)] w fun e w' => e = .returned (.int .i64 E) ∧ Below w.heap.size w w' := by
  obtain ⟨x, hx⟩ : ∃ x, l[i]? = some x := ⟨l[i]'(by omega), List.getElem?_eq_getElem _⟩
  obtain ⟨y, hy⟩ : ∃ y, l[k]? = some y := ⟨l[k]'(by omega), List.getElem?_eq_getElem _⟩
  rw [lfA_at hx, lfA_at hy] at hE
  obtain ⟨g, o, pl, cl, e1, hg, hx8, _, _⟩ := host_at hl hx
  obtain ⟨g', o', plo, clo, e2, _, hy8, _, _⟩ := host_at hl hy
  rw [e1] at e2
  simp only [Option.some.injEq, Addr.mk.injEq, and_true] at e2
  obtain ⟨rfl, rfl⟩ := e2
  subst e1
  obtain ⟨nm, L, hs, us⟩ := x
  obtain ⟨nmo, Lo, hso, uso⟩ := y
  obtain ⟨ln, hln⟩ : ∃ m, L.length = m := ⟨_, rfl⟩
  obtain ⟨lno, hlno⟩ : ∃ m, Lo.length = m := ⟨_, rfl⟩
  have hcm := fun w1 => compareLeft_any nm pl ln cl hs us nmo plo lno clo hso uso d w1 E hE
  have hb : Below w.heap.size w w.drew := (Below.refl _ _).drew
  have hqd : w.drew.heap[gq]? = _ := hq
  have hdd : w.drew.heap[gd]? = _ := hd
  have hx9 := hx8.below hb hg
  have hy9 := hy8.below hb hg
  have hbH : Hid (Below w.heap.size w w.drew) := hb
  have hgH : Hid (g < w.heap.size) := hg
  clear hx hy hE hl hnl hx8 hy8 hq hd hb hg
  have hii : (i : Int) < (nl : Int) := by omega
  have hkk : (k : Int) < (nl : Int) := by omega
  have hi0 : ¬ (i : Int) < 0 := by omega
  have hk0 : ¬ (k : Int) < 0 := by omega
  go_enter Tryd.func44, Tryd.ntmps44
  go_wp2
  refine Tkc.region_anyC (C := fun w' => Below w.drew.heap.size w.drew w') (s := 11) (by kernel_rfl) ?_
  have hgd2 : g < w.drew.heap.size := hgH.out
  generalize w.drew = wd at *
  have hcz : Below wd.heap.size wd wd := Below.refl _ _
  have hcl : ∀ w', Below wd.heap.size wd w' → w'.cell? ⟨gq, 0, none⟩ = some (.slice (some ⟨g, o, none⟩) nl c) ∧ (w'.cell? ⟨gd, 0, none⟩ = some (.int .i64 d.x) ∧ w'.cell? ⟨gd, 1, none⟩ = some (.int .i64 d.y) ∧ w'.cell? ⟨gd, 2, none⟩ = some (.int .i64 d.z)) ∧ (w'.cell? ⟨g, o + i * 8, none⟩ = some (.string nm) ∧ w'.cell? ⟨g, o + i * 8 + 1, none⟩ = some (.slice pl ln cl) ∧ w'.cell? ⟨g, o + i * 8 + 2, none⟩ = some (.int .i64 hs.x) ∧ w'.cell? ⟨g, o + i * 8 + 3, none⟩ = some (.int .i64 hs.y) ∧ w'.cell? ⟨g, o + i * 8 + 4, none⟩ = some (.int .i64 hs.z) ∧ w'.cell? ⟨g, o + i * 8 + 5, none⟩ = some (.int .i64 us.x) ∧ w'.cell? ⟨g, o + i * 8 + 6, none⟩ = some (.int .i64 us.y) ∧ w'.cell? ⟨g, o + i * 8 + 7, none⟩ = some (.int .i64 us.z)) ∧ (w'.cell? ⟨g, o + k * 8, none⟩ = some (.string nmo) ∧ w'.cell? ⟨g, o + k * 8 + 1, none⟩ = some (.slice plo lno clo) ∧ w'.cell? ⟨g, o + k * 8 + 2, none⟩ = some (.int .i64 hso.x) ∧ w'.cell? ⟨g, o + k * 8 + 3, none⟩ = some (.int .i64 hso.y) ∧ w'.cell? ⟨g, o + k * 8 + 4, none⟩ = some (.int .i64 hso.z) ∧ w'.cell? ⟨g, o + k * 8 + 5, none⟩ = some (.int .i64 uso.x) ∧ w'.cell? ⟨g, o + k * 8 + 6, none⟩ = some (.int .i64 uso.y) ∧ w'.cell? ⟨g, o + k * 8 + 7, none⟩ = some (.int .i64 uso.z)) := by
    intro w' hw'
    have y5 := (hw'.block _ (Array.getElem?_eq_some_iff.1 hdd).1).trans hdd
    obtain ⟨⟨a0, a1⟩, ⟨a2, a3, a4⟩, ⟨a5, a6, a7⟩⟩ := hx9.below hw' hgd2
    obtain ⟨⟨b0, b1⟩, ⟨b2, b3, b4⟩, ⟨b5, b6, b7⟩⟩ := hy9.below hw' hgd2
    simp only [hln] at a1
    simp only [hlno] at b1
    exact ⟨(cell_of_row _ _ 0 _ _ _ ((hw'.block _ (Array.getElem?_eq_some_iff.1 hqd).1).trans hqd)).trans rfl, ⟨(cell_of_row _ _ 0 _ _ _ y5).trans rfl, (cell_of_row _ _ 1 _ _ _ y5).trans rfl, (cell_of_row _ _ 2 _ _ _ y5).trans rfl⟩, ⟨a0, a1, a2, a3, a4, a5, a6, a7⟩, ⟨b0, b1, b2, b3, b4, b5, b6, b7⟩⟩
  clear hqd hdd hx9 hy9 hgd2
  refine Tkc.takeC (i := 0) (v := .slice (some ⟨g, o, none⟩) nl c) rfl (by kernel_rfl) (by kernel_rfl) (by kernel_rfl) (fun _ _ _ h => h) (by decide) (by kernel_rfl) (by kernel_rfl) hcz ⟨by rfl, fun w hw => by obtain ⟨z0, ⟨d0, d1, d2⟩, ⟨a0, a1, a2, a3, a4, a5, a6, a7⟩, ⟨b0, b1, b2, b3, b4, b5, b6, b7⟩⟩ := hcl w hw; go_simp⟩ ?_
  try go_frame
  refine Tkc.takeC (i := 1) (v := .int .i64 (i : Int)) rfl (by kernel_rfl) (by kernel_rfl) (by kernel_rfl) (fun _ _ _ h => h) (by decide) (by kernel_rfl) (by kernel_rfl) hcz ⟨by rfl, fun w hw => by obtain ⟨z0, ⟨d0, d1, d2⟩, ⟨a0, a1, a2, a3, a4, a5, a6, a7⟩, ⟨b0, b1, b2, b3, b4, b5, b6, b7⟩⟩ := hcl w hw; go_simp⟩ ?_
  try go_frame
  refine Tkc.takeC (i := 2) (v := .pointer (some ⟨g, o + i * 8, none⟩)) rfl (by kernel_rfl) (by kernel_rfl) (by kernel_rfl) (fun _ _ _ h => h) (by decide) (by kernel_rfl) (by kernel_rfl) hcz ⟨by rfl, fun w hw => by obtain ⟨z0, ⟨d0, d1, d2⟩, ⟨a0, a1, a2, a3, a4, a5, a6, a7⟩, ⟨b0, b1, b2, b3, b4, b5, b6, b7⟩⟩ := hcl w hw; go_simp⟩ ?_
  try go_frame
  refine Tkc.takeC (i := 3) (v := .agg #[.string nm, .slice pl ln cl, .int .i64 hs.x, .int .i64 hs.y, .int .i64 hs.z, .int .i64 us.x, .int .i64 us.y, .int .i64 us.z]) rfl (by kernel_rfl) (by kernel_rfl) (by kernel_rfl) (fun _ _ _ h => h) (by decide) (by kernel_rfl) (by kernel_rfl) hcz ⟨by rfl, fun w hw => by obtain ⟨z0, ⟨d0, d1, d2⟩, ⟨a0, a1, a2, a3, a4, a5, a6, a7⟩, ⟨b0, b1, b2, b3, b4, b5, b6, b7⟩⟩ := hcl w hw; go_simp⟩ ?_
  try go_frame
  refine Tkc.takeC (i := 4) (v := .slice (some ⟨g, o, none⟩) nl c) rfl (by kernel_rfl) (by kernel_rfl) (by kernel_rfl) (fun _ _ _ h => h) (by decide) (by kernel_rfl) (by kernel_rfl) hcz ⟨by rfl, fun w hw => by obtain ⟨z0, ⟨d0, d1, d2⟩, ⟨a0, a1, a2, a3, a4, a5, a6, a7⟩, ⟨b0, b1, b2, b3, b4, b5, b6, b7⟩⟩ := hcl w hw; go_simp⟩ ?_
  try go_frame
  refine Tkc.takeC (i := 5) (v := .int .i64 (k : Int)) rfl (by kernel_rfl) (by kernel_rfl) (by kernel_rfl) (fun _ _ _ h => h) (by decide) (by kernel_rfl) (by kernel_rfl) hcz ⟨by rfl, fun w hw => by obtain ⟨z0, ⟨d0, d1, d2⟩, ⟨a0, a1, a2, a3, a4, a5, a6, a7⟩, ⟨b0, b1, b2, b3, b4, b5, b6, b7⟩⟩ := hcl w hw; go_simp⟩ ?_
  try go_frame
  refine Tkc.takeC (i := 6) (v := .pointer (some ⟨g, o + k * 8, none⟩)) rfl (by kernel_rfl) (by kernel_rfl) (by kernel_rfl) (fun _ _ _ h => h) (by decide) (by kernel_rfl) (by kernel_rfl) hcz ⟨by rfl, fun w hw => by obtain ⟨z0, ⟨d0, d1, d2⟩, ⟨a0, a1, a2, a3, a4, a5, a6, a7⟩, ⟨b0, b1, b2, b3, b4, b5, b6, b7⟩⟩ := hcl w hw; go_simp⟩ ?_
  try go_frame
  refine Tkc.takeC (i := 7) (v := .agg #[.string nmo, .slice plo lno clo, .int .i64 hso.x, .int .i64 hso.y, .int .i64 hso.z, .int .i64 uso.x, .int .i64 uso.y, .int .i64 uso.z]) rfl (by kernel_rfl) (by kernel_rfl) (by kernel_rfl) (fun _ _ _ h => h) (by decide) (by kernel_rfl) (by kernel_rfl) hcz ⟨by rfl, fun w hw => by obtain ⟨z0, ⟨d0, d1, d2⟩, ⟨a0, a1, a2, a3, a4, a5, a6, a7⟩, ⟨b0, b1, b2, b3, b4, b5, b6, b7⟩⟩ := hcl w hw; go_simp⟩ ?_
  try go_frame
  refine Tkc.takeC (i := 8) (v := .agg #[.int .i64 d.x, .int .i64 d.y, .int .i64 d.z]) rfl (by kernel_rfl) (by kernel_rfl) (by kernel_rfl) (fun _ _ _ h => h) (by decide) (by kernel_rfl) (by kernel_rfl) hcz ⟨by rfl, fun w hw => by obtain ⟨z0, ⟨d0, d1, d2⟩, ⟨a0, a1, a2, a3, a4, a5, a6, a7⟩, ⟨b0, b1, b2, b3, b4, b5, b6, b7⟩⟩ := hcl w hw; go_simp⟩ ?_
  try go_frame
  clear hcl
  refine Tkc.onlyC (i := 9) rfl (by kernel_rfl) (fun _ => hcz) (by rfl) (fun K hK => ?_)
  go_simp
  refine (hcm wd).mono ?_
  rintro e w3 ⟨rfl, hb3⟩
  have hcz3 : Below wd.heap.size wd w3 := hb3
  have hB3H : Hid (Below w.heap.size w w3) := hbH.out.trans (hb3.mono hbH.out.size)
  clear hcm hb3
  refine hK _ _ ?_
  clear hK K
  try go_frame
  refine Tkc.onlyC (i := 10) rfl (by kernel_rfl) (fun _ => hcz3) (by rfl) (fun K hK => ?_)
  go_simp
  refine hK _ _ ?_
  clear hK K
  try go_frame
  refine Tkc.doneC (by kernel_rfl) (fun _ => hcz3) ?_
  go_wp2
  go_ret
  exact ⟨rfl, hB3H.out⟩

set_option maxHeartbeats 4000000 in
set_option maxRecDepth 100000 in
theorem minFunc_any (l : List Ht) (q : Option Addr) (nl c gq gd : Nat) (hnl : l.length = nl) (hn30 : nl ≤ 30) (d : N3) (w : World) (hl : Hsts w q l) (hq : w.heap[gq]? = some (.cells #[.slice q nl c] 22 (0, 0))) (hd : w.heap[gd]? = some (.cells #[.int .i64 d.x, .int .i64 d.y, .int .i64 d.z] 27 (0, 0))) (F : List Nat) (m0 : Nat) (nf : Nat) (hF : F.length + 1 = nf) (hf30 : nf ≤ 30) (hFl : ∀ x ∈ m0 :: F, x < nl) (gf cf : Nat) (B : Nat) (hown : w.ownsRow B 3 1 (.slice (some ⟨gf, 0, none⟩) nf cf) nf (intsH (m0 :: F))) :
    Calls Tryd.prog 43 #[.slice (some ⟨gf, 0, none⟩) nf cf, .func (.func 44) #[] #[.pointer (some ⟨gq, 0, none⟩), .pointer (some ⟨gd, 0, none⟩)]] w fun e w' => e = .returned (.int .i64 ((mnG (lfA l d) m0 F : Nat) : Int)) ∧ Below w.heap.size w w' := by
  have hgf := (hown.lt gf rfl).2
  have hcell : ∀ (j x : Nat), (m0 :: F)[j]? = some x → w.cell? ⟨gf, j, none⟩ = some (.int .i64 (x : Int)) := by
    intro j x hx
    have hj := (List.getElem?_eq_some_iff.1 hx).1
    rw [hown.cellAt j (by simp at hj; omega)]
    unfold intsH
    rw [List.getElem?_map, hx]
    rfl
  obtain ⟨K0, hK0⟩ : ∃ K0, mnG (lfA l d) m0 F = K0 := ⟨_, rfl⟩
  have hKH : Hid (mnG (lfA l d) m0 F = K0) := hK0
  rw [hK0]
  have hcm : Hid (∀ w1, Below w.heap.size w w1 → ∀ i k, i < nl → k < nl → Calls Tryd.prog 44 #[.int .i64 (i : Int), .int .i64 (k : Int), .pointer (some ⟨gq, 0, none⟩), .pointer (some ⟨gd, 0, none⟩)] w1 fun e w' => e = .returned (.int .i64 (lx (lfA l d i) (lfA l d k))) ∧ Below w1.heap.size w1 w') := fun w1 h i k hi hk => best1_any l q nl c gq gd hnl d w1 (hl.below h) ((h.block _ (Array.getElem?_eq_some_iff.1 hq).1).trans hq) ((h.block _ (Array.getElem?_eq_some_iff.1 hd).1).trans hd) i k hi hk hn30 _ rfl
  have hcH : Hid (∀ (j x : Nat), (m0 :: F)[j]? = some x → w.cell? ⟨gf, j, none⟩ = some (.int .i64 (x : Int))) := hcell
  have c0 := hcell 0 m0 rfl
  have hFH : Hid (F.length + 1 = nf) := hF
  have hFlH : Hid (∀ x ∈ m0 :: F, x < nl) := hFl
  have hgfH : Hid (gf < w.heap.size) := hgf
  have hn1 : ¬ (nf : Int) < 1 := by omega
  have hn0 : (0 : Int) < (nf : Int) := by omega
  have hf30i : (nf : Int) ≤ 30 := by omega
  generalize lfA l d = f at *
  clear hK0 hl hq hd hown hcell hF hFl hgf hf30 hnl hn30
  go_enter Tryd.func43, Tryd.ntmps43
  go_wp2
  go_loopw [5, 6] (fun mv iv wr => ∃ (j m : Nat), iv = .int .i64 ((j + 1 : Nat) : Int) ∧ mv = .int .i64 (m : Int) ∧ j + 1 ≤ nf ∧ Hid (m < nl) ∧ Hid (mnG f m (F.drop j) = K0) ∧ Hid (Below w.heap.size w wr)) (fun _ iv _ => nf - (intOf iv).toNat)
  case atStart => exact ⟨0, m0, by first | rfl | simp, rfl, by have := hFH.out; omega, hFlH.out m0 (by simp), by rw [List.drop_zero]; exact hKH, Below.refl _ _⟩
  case round =>
    obtain ⟨j, m, rfl, rfl, hj, hm, hmn, hbl⟩ := hrel
    by_cases hjl : j + 1 < nf
    · obtain ⟨x, hx⟩ : ∃ x, F[j]? = some x := ⟨F[j]'(by have := hFH.out; omega), List.getElem?_eq_getElem _⟩
      have hxl : x < nl := hFlH.out x (List.mem_cons_of_mem _ (List.mem_of_getElem? hx))
      have z0 := (hbl.out.cell (p := ⟨gf, j + 1, none⟩) hgfH.out).trans (hcH.out (j + 1) x (by simpa using hx))
      have hcall := hcm.out wr hbl.out x m hxl hm.out
      have hmn2 := hmn.out
      have hjF := (List.getElem?_eq_some_iff.1 hx).1
      have hxe := (List.getElem?_eq_some_iff.1 hx).2
      rw [List.drop_eq_getElem_cons hjF, hxe, mnG] at hmn2
      have hjH : Hid (j + 1 < nf) := hjl
      have hlt : ((j : Int) + 1) < (nf : Int) := by omega
      have hxH : Hid (x < nl) := hxl
      generalize lx (f x) (f m) = L at *
      clear hx hxl hmn hj hjl hjF hxe
      by_cases hL : L < 0
      · rw [if_pos hL] at hmn2
        have hmnH : Hid (mnG f x (F.drop (j + 1)) = K0) := hmn2
        clear hmn2
        go_wp2_with (first
          | (go_at_call 44; refine hcall.mono ?_; rintro e w5 ⟨rfl, hb5⟩; clear hcall; have z5 := (hb5.cell (p := ⟨gf, j + 1, none⟩) (Nat.lt_of_lt_of_le hgfH.out hbl.out.size)).trans z0)
          | go_in)
        refine ⟨⟨j + 1, x, by first | rfl | simp, by first | rfl | simp, hjH.out, hxH.out, hmnH, hbl.out.trans (hb5.mono hbl.out.size)⟩, ?_⟩
        have := hjH.out
        simp [intOf]
        omega
      · rw [if_neg hL] at hmn2
        have hmnH : Hid (mnG f m (F.drop (j + 1)) = K0) := hmn2
        clear hmn2
        go_wp2_with (first
          | (go_at_call 44; refine hcall.mono ?_; rintro e w5 ⟨rfl, hb5⟩; clear hcall)
          | go_in)
        refine ⟨⟨j + 1, m, by first | rfl | simp, by first | rfl | simp, hjH.out, hm, hmnH, hbl.out.trans (hb5.mono hbl.out.size)⟩, ?_⟩
        have := hjH.out
        simp [intOf]
        omega
    · have hlt : ¬ ((j : Int) + 1) < (nf : Int) := by omega
      obtain rfl : m = K0 := by
        have := hmn.out
        rw [List.drop_of_length_le (by have := hFH.out; omega), mnG] at this
        exact this
      go_wp2
      go_ret
      exact ⟨rfl, hbl.out⟩
end Go.Proofs.YtelepamnlpebgabDoor
