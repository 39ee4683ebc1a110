/- PathChain, walked. -/
import Derived.Test.YtncjnmlgkhngaabDoorPal
import Derived.Test.YtncjnmlgkhngaabDoorGte
namespace Go.Proofs.YtncjnmlgkhngaabDoor
open Go.RowKit Gm Pm
set_option linter.unusedSectionVars false
set_option linter.unusedVariables false

theorem Nums.at' {w : World} {q : Option Addr} {d : List Int} (h : Nums w q d) {i : Nat} (hi : i < d.length) : ∃ b o, q = some ⟨b, o, none⟩ ∧ w.cell? ⟨b, o + i, none⟩ = some (.int .i64 (nm d i)) := by
  rcases h with h0 | ⟨b, o, e, hA⟩
  · omega
  · exact ⟨b, o, e, hA.c i hi⟩
/-- How many come ahead of one. -/
def ancN (l : List Ed) (n x : Nat) : Nat := ((List.range n).filter fun k => wB l k x).length
theorem ancN_le (l : List Ed) (n x : Nat) : ancN l n x ≤ n := by
  have := List.length_filter_le (fun k => wB l k x) (List.range n)
  simpa [ancN] using this
theorem ancN_edge {l : List Ed} {n a b : Nat} (hg : Gr n l) (hac : ∀ i, ¬ Rch (eB l) i i) (h : eB l a b = true) : ancN l n a < ancN l n b :=
  Gm.filter_lt (p := fun k => wB l k a) (q := fun k => wB l k b) (l := List.range n) (fun x _ hx => (wB_iff hg).2 (((wB_iff hg).1 hx).snoc h)) a (by simpa using (hg.lt h).1) ((wB_iff hg).2 (.one h)) (by
    cases e : wB l a a
    · rfl
    · exact absurd ((wB_iff hg).1 e) (hac a))
/-- The first i of a row are a chain, and take so long. -/
structure ChI (l : List Ed) (D E : Nat → Int) (n : Nat) (row : List Int) (i : Nat) (s : Int) : Prop where
  lo : 0 ≤ s
  start : i = 0 → s = 0
  last : ∀ j, i = j + 1 → ∃ x : Nat, nm row j = x ∧ x < n ∧ s ≤ E x + D x ∧ j ≤ ancN l n x
theorem ChI.step0 {l : List Ed} {D E L : Nat → Int} {n x : Nat} {row : List Int} {s S : Int} (hP : Pln l D n E L S) (hD : ∀ i, i < n → 0 ≤ D i ∧ D i ≤ 1000000000) (h : ChI l D E n row 0 s) (hx : nm row 0 = x) (hxn : x < n) : ChI l D E n row 1 (s + D x) := by
  have h0 := h.start rfl
  have := hD x hxn
  have := hP.e.lo x hxn
  exact ⟨by omega, fun h => by omega, fun j hj => by obtain rfl : j = 0 := (by omega); exact ⟨x, hx, hxn, by omega, by omega⟩⟩
theorem ChI.step {l : List Ed} {D E L : Nat → Int} {n x j : Nat} {row : List Int} {s S : Int} (hg : Gr n l) (hac : ∀ i, ¬ Rch (eB l) i i) (hP : Pln l D n E L S) (hD : ∀ i, i < n → 0 ≤ D i ∧ D i ≤ 1000000000) (h : ChI l D E n row (j + 1) s) (hx : nm row (j + 1) = x) (hxn : x < n) (he : (⟨nm row j, nm row (j + 1)⟩ : Ed) ∈ l) : ChI l D E n row (j + 1 + 1) (s + D x) := by
  obtain ⟨y, h1, h2, h3, h4⟩ := h.last j rfl
  have hyx : eB l y x = true := eB_true.2 ⟨_, he, h1, hx⟩
  have := hP.e.edge y x hyx
  have := ancN_edge hg hac hyx
  have := hD x hxn
  have := h.lo
  exact ⟨by omega, fun h => by omega, fun k hk => by obtain rfl : k = j + 1 := (by omega); exact ⟨x, hx, hxn, by omega, by omega⟩⟩
theorem ChI.few {l : List Ed} {D E : Nat → Int} {n i : Nat} {row : List Int} {s : Int} (h : ChI l D E n row i s) (hn : n ≤ 60) : i ≤ 61 := by
  cases i with
  | zero => omega
  | succ j =>
    obtain ⟨x, _, _, _, h4⟩ := h.last j rfl
    have := ancN_le l n x
    omega
theorem ChI.done {l : List Ed} {D E L : Nat → Int} {n i : Nat} {row : List Int} {s S : Int} (hP : Pln l D n E L S) (h : ChI l D E n row i s) : s ≤ S := by
  cases i with
  | zero => have := h.start rfl; have := hP.s.lo; omega
  | succ j =>
    obtain ⟨x, _, h2, h3, _⟩ := h.last j rfl
    have := hP.s.up x h2
    omega

set_option maxHeartbeats 4000000 in
set_option maxRecDepth 100000 in
theorem pathChain_walk (n : Int) (q : Option Addr) (l : List Ed) (cap : Nat) (pd : Option Addr) (d : List Int) (cd : Nat) (pt : Option Addr) (t : List Int) (ct : Nat) (w : World) (hZ : TabZ w) (h : Eds w q l) (hd : Nums w pd d) (ht : Nums w pt t) :
    Calls Tryd.prog 4 #[.int .i64 n, .slice q l.length cap, .slice pd d.length cd, .slice pt t.length ct] w fun e w' => e = .returned (.bool true) ∧ Below w.heap.size w w' := by
  have hpa := paths_any w hZ
  have hEb : Hid (∀ w1, Below w.heap.size w w1 → Eds w1 q l) := fun w1 hb => h.below hb (Nat.le_refl _)
  have hdb : Hid (∀ w1, Below w.heap.size w w1 → Nums w1 pd d) := fun w1 hb => hd.below hb (Nat.le_refl _)
  have htb : Hid (∀ w1, Below w.heap.size w w1 → Nums w1 pt t) := fun w1 hb => ht.below hb (Nat.le_refl _)
  have hZb : Hid (∀ w1, Below w.heap.size w w1 → TabZ w1) := fun w1 hb => hZ.below hb (Nat.le_refl _)
  by_cases h0 : pe n l d = 0
  · have hti : Hid (∀ w1, Below w.heap.size w w1 → _) := fun w1 hb => times_ok (cap := cap) (cd := cd) (hEb.out w1 hb) (hZb.out w1 hb) (hdb.out w1 hb) h0
    obtain ⟨hc0, hdn, hdu, hac⟩ := pe_zero h0
    obtain ⟨hn0, hn60, hl4, _⟩ := chk_ok hc0
    obtain ⟨N, rfl⟩ : ∃ N : Nat, n = N := ⟨n.toNat, by omega⟩
    have hdN : d.length = N := by omega
    have hdNH : Hid (d.length = N) := hdN
    have hgH : Hid (Gr N l) := by have h3 := chk_gr hc0; rw [Int.toNat_natCast] at h3; exact h3
    have hlH : Hid (l.length ≤ 400) := hl4
    have hacH : Hid (∀ i, ¬ Rch (eB l) i i) := hac
    have hDH : Hid (∀ i, i < N → 0 ≤ nm d i ∧ nm d i ≤ 1000000000) := dur_nm hdN hdu
    have hnH : Hid (N ≤ 60) := hgH.out.n60
    rw [hdN] at hti ⊢
    clear h hd ht hZ hZb h0 hc0 hdn hdu hac hl4 hdN hn0 hn60
    go_enter Tryd.func4, Tryd.ntmps4
    go_wp2_with (first
      | (go_at_call 6; refine hpa.mono ?_; rintro e w1 ⟨rfl, hB1⟩; clear hpa)
      | (go_at_call 7; refine (hti.out w1 hB1).mono ?_; rintro e w2 ⟨⟨E, L, S, pE, cE, pL, cL, rfl, hP, hE2, hL2⟩, hb2⟩; clear hti; have hPH : Hid (Pln l (nm d) N E L S) := hP; clear hP hL2 hE2; have hB2 : Below w.heap.size w w2 := hB1.trans (hb2.mono hB1.size); obtain ⟨hbz, hz⟩ := plan_box w2 #[.slice pE N cE, .slice pL N cL, .int .i64 S])
      | (refine wpList_store_row rfl 26 _ _ rfl _ #[.slice pE N cE, .slice pL N cL, .int .i64 S] rfl rfl _ _ (heap_alloc_new w2 _) (plan_info _ rfl) rfl (plan_one _ _ _ _ _ _ _) ?_; generalize World.setRow (w2.alloc (.cells #[.slice none 0 0, .slice none 0 0, .int .i64 0] 26)) w2.heap.size #[.slice pE N cE, .slice pL N cL, .int .i64 S] = wz at *)
      | go_in)
    have hBz : Hid (Below w.heap.size w wz) := hB2.trans (hbz.mono hB2.size)
    have p2 : wz.cell? ⟨w2.heap.size, 2, none⟩ = some (.int .i64 S) := box_cell hz 2 rfl
    have hgz : Hid (w2.heap.size < wz.heap.size) := (Array.getElem?_eq_some_iff.1 hz).1
    clear hbz hz hB1 hB2 hb2
    generalize w2.heap.size = gp at *
    have hbd := hPH.out.bounds hgH.out hacH.out hDH.out
    have hSb : Hid (S ≤ 61000000000) := hbd.2.2
    clear hbd
    go_loopw [11, 30] (fun sv iv wr => ∃ (i : Nat) (s : Int), iv = .int .i64 i ∧ sv = .int .i64 s ∧ i ≤ t.length ∧ ChI l (nm d) E N t i s ∧ Below wz.heap.size wz wr)
      (fun _ iv _ => t.length - (intOf iv).toNat)
    case atStart => exact ⟨0, 0, rfl, rfl, Nat.zero_le _, ⟨Int.le_refl _, fun _ => rfl, fun j hj => absurd hj (by omega)⟩, Below.refl _ _⟩
    case round =>
      obtain ⟨i, s, rfl, rfl, hit, hC, hbl⟩ := hrel
      have hBr : Hid (Below w.heap.size w wr) := hBz.out.trans (hbl.mono hBz.out.size)
      have hCH : Hid (ChI l (nm d) E N t i s) := hC
      have hi2 : Hid (i ≤ 100000) := by have := hC.few hnH.out; show _ ≤ _; omega
      have hs1 : Hid (0 ≤ s ∧ s ≤ 61000000000) := ⟨hC.lo, by have := hC.done hPH.out; have := hSb.out; omega⟩
      have hblH : Hid (Below wz.heap.size wz wr) := hbl
      clear hC hbl
      by_cases hi : i < t.length
      · have hii : (i : Int) < (t.length : Int) := by omega
        obtain ⟨b, o, rfl, t0⟩ := (htb.out wr hBr.out).at' hi
        by_cases hx0 : nm t i < 0
        · generalize nm t i = x at *
          clear hEb hdb htb
          go_wp2
          go_ret
          exact ⟨rfl, hBr.out⟩
        by_cases hx1 : (N : Int) ≤ nm t i
        · generalize nm t i = x at *
          clear hEb hdb htb
          go_wp2
          go_ret
          exact ⟨rfl, hBr.out⟩
        obtain ⟨X, hX⟩ : ∃ X : Nat, nm t i = X := ⟨(nm t i).toNat, by omega⟩
        have hXn : X < N := by omega
        have hdd : Hid (∀ w1, Below w.heap.size w w1 → ∃ b o, pd = some ⟨b, o, none⟩ ∧ w1.cell? ⟨b, o + X, none⟩ = some (.int .i64 (nm d X))) := fun w1 hb => (hdb.out w1 hb).at' (by have := hdNH.out; omega)
        have hDx := hDH.out X hXn
        rw [hX] at t0
        have hXi : (X : Int) < (N : Int) := by omega
        have hX0 : ¬ (X : Int) < 0 := by omega
        have hXg : ¬ (N : Int) ≤ (X : Int) := by omega
        have hws : Hid (wrap64 (s + nm d X) = s + nm d X) := wrap_small (by have := hs1.out; omega)
        cases i with
        | zero =>
          have hnx : Hid (ChI l (nm d) E N t 1 (s + nm d X)) := ChI.step0 hPH.out hDH.out hCH.out hX hXn
          obtain ⟨b2, o2, rfl, d0⟩ := hdd.out wr hBr.out
          clear hdd hdb htb hEb hx0 hx1 hX hCH
          generalize nm d X = y at *
          have t00 : wr.cell? ⟨b, o, none⟩ = some (.int .i64 (X : Int)) := t0
          clear t0
          go_wp2
          refine ⟨⟨1, s + y, rfl, by rw [hws.out], hi, hnx.out, hblH.out⟩, ?_⟩
          simp [intOf]
          omega
        | succ j =>
          obtain ⟨b', o', ept, t1⟩ := (htb.out wr hBr.out).at' (i := j) (by omega)
          obtain ⟨rfl, rfl⟩ : b = b' ∧ o = o' := by simpa using ept
          have hcd : Hid (∀ w1, Below w.heap.size w w1 → _) := fun w1 hb => contains_d (c := cap) (nm t j) (nm t (j + 1)) rfl (hEb.out w1 hb) (Nat.le_trans hlH.out (by omega))
          have hcd1 := hcd.out wr hBr.out
          have hnx : Hid ((⟨nm t j, nm t (j + 1)⟩ : Ed) ∈ l → ChI l (nm d) E N t (j + 1 + 1) (s + nm d X)) := fun he => ChI.step hgH.out hacH.out hPH.out hDH.out hCH.out hX hXn he
          rw [hX] at hcd1 hnx
          clear hdb htb hEb hx0 hx1 hX hCH hcd
          generalize nm t j = Y at *
          have hwi : wrap64 (j : Int) = (j : Int) := wrap_small (by have := hi2.out; omega)
          have hdH : Hid (0 ≤ nm d X ∧ nm d X ≤ 1000000000) := hDx
          clear hDx
          by_cases hmem : (⟨Y, (X : Int)⟩ : Ed) ∈ l
          · have hnx' : Hid (ChI l (nm d) E N t (j + 1 + 1) (s + nm d X)) := hnx.out hmem
            have hmH : Hid ((⟨Y, (X : Int)⟩ : Ed) ∈ l) := hmem
            clear hnx hmem
            generalize nm d X = y at *
            go_wp2_with (first
              | (go_at_call 10; refine hcd1.mono ?_; rintro e w6 ⟨⟨z6, rfl, hz6⟩, hb6⟩; clear hcd1; obtain rfl : z6 = true := hz6.2 hmH.out; clear hz6; have hB6 : Below w.heap.size w w6 := hBr.out.trans (hb6.mono hBr.out.size); obtain ⟨b2, o2, rfl, d0⟩ := hdd.out w6 hB6)
              | go_in)
            refine ⟨⟨j + 1 + 1, s + y, ?_, by rw [hws.out], hi, hnx'.out, hblH.out.trans (hb6.mono hblH.out.size)⟩, ?_⟩
            · first | exact int_succ (j + 1) | exact int_wsucc hi2.out | (simp; done) | (congr 1; have := hi2.out; unfold wrap64; omega)
            · first | exact meas_1 hi | exact meas_w hi hi2.out | (simp [intOf]; omega) | (have h9 : wrap64 ((j : Int) + 1 + 1) = (j : Int) + 1 + 1 := (by have := hi2.out; unfold wrap64; omega); rw [h9]; simp [intOf]; omega)
          · have hmH : Hid (¬ (⟨Y, (X : Int)⟩ : Ed) ∈ l) := hmem
            clear hnx hmem
            go_wp2_with (first
              | (go_at_call 10; refine hcd1.mono ?_; rintro e w6 ⟨⟨z6, rfl, hz6⟩, hb6⟩; clear hcd1; obtain rfl : z6 = false := (by cases z6; rfl; exact absurd (hz6.1 rfl) hmH.out); clear hz6; have hB6 : Below w.heap.size w w6 := hBr.out.trans (hb6.mono hBr.out.size))
              | go_in)
            go_ret
            exact ⟨rfl, hB6⟩
      · have hii : ¬ (i : Int) < (t.length : Int) := by omega
        have hSZ : s ≤ S := hCH.out.done hPH.out
        have pp2 := (hblH.out.cell (p := ⟨gp, 2, none⟩) hgz.out).trans p2
        clear hCH hs1 hEb hdb htb
        go_wp2
        go_ret
        exact ⟨by first | rfl | simp | (simp; omega), hBr.out⟩
  · have hti : Hid (∀ w1, Below w.heap.size w w1 → _) := fun w1 hb => times_bad (cap := cap) (cd := cd) (hEb.out w1 hb) (hZb.out w1 hb) (hdb.out w1 hb) h0
    have hc0 : (pe n l d == 0) = false := by simpa using h0
    have hc1 : (pe n l d != 0) = true := by simpa using h0
    generalize pe n l d = y at *
    clear h0 h hd ht hZ hZb hEb hdb htb
    go_enter Tryd.func4, Tryd.ntmps4
    go_wp2_with (first
      | (go_at_call 6; refine hpa.mono ?_; rintro e w1 ⟨rfl, hB1⟩; clear hpa)
      | (go_at_call 7; refine (hti.out w1 hB1).mono ?_; rintro e w2 ⟨rfl, hb2⟩; clear hti; have hB2 : Below w.heap.size w w2 := hB1.trans (hb2.mono hB1.size); obtain ⟨hbz, hz⟩ := plan_box w2 #[.slice none 0 0, .slice none 0 0, .int .i64 0])
      | (refine wpList_store_row rfl 26 _ _ rfl _ #[.slice none 0 0, .slice none 0 0, .int .i64 0] rfl rfl _ _ (heap_alloc_new w2 _) (plan_info _ rfl) rfl (plan_one _ _ _ _ _ _ _) ?_; generalize World.setRow (w2.alloc (.cells #[.slice none 0 0, .slice none 0 0, .int .i64 0] 26)) w2.heap.size #[.slice none 0 0, .slice none 0 0, .int .i64 0] = wz at *; have p2 : wz.cell? ⟨w2.heap.size, 2, none⟩ = some (.int .i64 0) := box_cell hz 2 rfl)
      | go_in)
    go_ret
    exact ⟨by first | rfl | simp, hB2.trans (hbz.mono hB2.size)⟩
end Go.Proofs.YtncjnmlgkhngaabDoor
