/- PathWay, walked. -/
import Derived.Test.YtncjnmlgkhngaaaDoorPwy
import Derived.Test.YtncjnmlgkhngaaaDoorGte
import Derived.Test.YtncjnmlgkhngaaaDoorGtm
namespace Go.Proofs.YtncjnmlgkhngaaaDoor
open Go.RowKit Gm Pm
set_option linter.unusedSectionVars false
set_option linter.unusedVariables false

set_option maxHeartbeats 1000000 in
set_option maxRecDepth 100000 in
theorem Critical_bad {n : Int} {w : World} {q pd : Option Addr} {l : List Ed} {d : List Int} {cap cd : Nat} (h : Eds w q l) (hZ : TabZ w) (hd : Nums w pd d) (hne : pe n l d ≠ 0) :
    Calls Tryd.prog 29 #[.int .i64 n, .slice q l.length cap, .slice pd d.length cd] w fun e w' => e = .returned (.tuple #[.slice none 0 0, .int .i64 (pe n l d)]) ∧ Below w.heap.size w w' := by
  have hti := times_bad (cap := cap) (cd := cd) h hZ hd hne
  have hc1 : (pe n l d != 0) = true := by simpa using hne
  generalize pe n l d = y at *
  clear h hZ hd hne
  go_enter Tryd.func29, Tryd.ntmps29
  go_wp2_with (first
    | (go_at_call 28; refine hti.mono ?_; rintro e w2 ⟨rfl, hb2⟩; clear hti; obtain ⟨hbz, hz⟩ := plan_box w2 #[.slice none 0 0, .slice none 0 0, .int .i64 0])
    | (refine wpList_store_row rfl 49 _ _ rfl _ #[.slice none 0 0, .slice none 0 0, .int .i64 0] rfl rfl _ _ (heap_alloc_new w2 _) (plan_info _ rfl) rfl (plan_one _ _ _ _ _ _ _) ?_; generalize World.setRow (w2.alloc (.cells #[.slice none 0 0, .slice none 0 0, .int .i64 0] 49)) w2.heap.size #[.slice none 0 0, .slice none 0 0, .int .i64 0] = wz at *)
    | go_in)
  go_ret2
  exact ⟨rfl, hb2.trans (hbz.mono hb2.size)⟩

set_option maxHeartbeats 1000000 in
set_option maxRecDepth 100000 in
theorem Way_bad {n : Int} {w : World} {q pd : Option Addr} {l : List Ed} {d : List Int} {cap cd : Nat} (h : Eds w q l) (hZ : TabZ w) (hd : Nums w pd d) (hne : pe n l d ≠ 0) :
    Calls Tryd.prog 30 #[.int .i64 n, .slice q l.length cap, .slice pd d.length cd] w fun e w' => e = .returned (.tuple #[.slice none 0 0, .int .i64 (pe n l d)]) ∧ Below w.heap.size w w' := by
  have hti := times_bad (cap := cap) (cd := cd) h hZ hd hne
  have hc1 : (pe n l d != 0) = true := by simpa using hne
  generalize pe n l d = y at *
  clear h hZ hd hne
  go_enter Tryd.func30, Tryd.ntmps30
  go_wp2_with (first
    | (go_at_call 28; refine hti.mono ?_; rintro e w2 ⟨rfl, hb2⟩; clear hti; obtain ⟨hbz, hz⟩ := plan_box w2 #[.slice none 0 0, .slice none 0 0, .int .i64 0])
    | (refine wpList_store_row rfl 49 _ _ rfl _ #[.slice none 0 0, .slice none 0 0, .int .i64 0] rfl rfl _ _ (heap_alloc_new w2 _) (plan_info _ rfl) rfl (plan_one _ _ _ _ _ _ _) ?_; generalize World.setRow (w2.alloc (.cells #[.slice none 0 0, .slice none 0 0, .int .i64 0] 49)) w2.heap.size #[.slice none 0 0, .slice none 0 0, .int .i64 0] = wz at *)
    | go_in)
  go_ret2
  exact ⟨rfl, hb2.trans (hbz.mono hb2.size)⟩

theorem bn_left {A B : List Nat} {k : Nat} (h : k < A.length) : bn (A ++ B) k = bn A k := by
  unfold bn
  rw [List.getD_eq_getElem?_getD, List.getD_eq_getElem?_getD, List.getElem?_append_left h]
theorem bn_end (A : List Nat) (x : Nat) : bn (A ++ [x]) A.length = x := by simp [bn]
theorem Wy.idx {l : List Ed} {D E L : Nat → Int} {n : Nat} {S : Int} {W : List Nat} (h : Wy l D E L n S W) : (0 < W.length → E (bn W 0) = 0) ∧ ∀ k, k + 1 < W.length → eB l (bn W k) (bn W (k + 1)) = true ∧ E (bn W (k + 1)) = E (bn W k) + D (bn W k) := by
  induction h with
  | nil => exact ⟨fun h => by simp at h, fun k hk => by simp at hk⟩
  | first _ h2 _ _ => exact ⟨fun _ => h2, fun k hk => by simp at hk⟩
  | @snoc R i j _ _ hij hE _ _ ih =>
    refine ⟨fun _ => ?_, fun k hk => ?_⟩
    · rw [bn_left (by simp)]; exact ih.1 (by simp)
    · by_cases e : k + 1 < (R ++ [i]).length
      · rw [bn_left (by omega), bn_left e]; exact ih.2 k e
      · have hk2 : k = R.length := by simp at hk e; omega
        subst hk2
        have e1 : bn (R ++ [i] ++ [j]) R.length = i := by rw [bn_left (by simp), bn_end]
        have e2 : bn (R ++ [i] ++ [j]) (R.length + 1) = j := by
          have := bn_end (R ++ [i]) j
          simpa using this
        rw [e1, e2]
        exact ⟨hij, hE⟩
/-- How long the first k of a way take. -/
def smW (E : Nat → Int) (S : Int) (W : List Nat) (k : Nat) : Int := if k < W.length then E (bn W k) else S
theorem WyD.sums {l : List Ed} {D E L : Nat → Int} {n : Nat} {S : Int} {W : List Nat} (hP : Pln l D n E L S) (h : WyD l D E L n S W) : smW E S W 0 = 0 ∧ smW E S W W.length = S ∧ ∀ k, k < W.length → smW E S W k = E (bn W k) ∧ smW E S W (k + 1) = E (bn W k) + D (bn W k) := by
  obtain ⟨h1, h2⟩ := h.way.idx
  refine ⟨?_, by simp [smW], fun k hk => ⟨by rw [smW, if_pos hk], ?_⟩⟩
  · unfold smW
    split
    · rename_i hl; exact h1 hl
    · rename_i hl
      have h0 : W = [] := List.length_eq_zero_iff.1 (by omega)
      have hn := h.zero.1 h0
      rcases hP.s.why with e | ⟨i, hi, _⟩
      · exact e
      · omega
  · unfold smW
    split
    · rename_i hl; exact (h2 k hl).2
    · rename_i hl
      have hk1 : k + 1 = W.length := by omega
      rcases List.eq_nil_or_concat W with rfl | ⟨R, i, rfl⟩
      · simp at hk
      · have : k = R.length := by simp at hk1; omega
        subst this
        simp only [List.concat_eq_append] at *
        rw [bn_end]
        exact (h.last R i rfl).symm

set_option maxHeartbeats 4000000 in
set_option maxRecDepth 100000 in
theorem pathWay_walk (n : Int) (q : Option Addr) (l : List Ed) (cap : Nat) (pd : Option Addr) (d : List Int) (cd : Nat) (w : World) (hZ : TabZ w) (h : Eds w q l) (hd : Nums w pd d) :
    Calls Tryd.prog 8 #[.int .i64 n, .slice q l.length cap, .slice pd d.length cd] w fun e w' => e = .returned (.bool true) ∧ Below w.heap.size w w' := by
  have hpa := paths_any w hZ
  have hEb : Hid (∀ w1, Below w.heap.size w w1 → Eds w1 q l) := fun w1 hb => h.below hb (Nat.le_refl _)
  have hdb : Hid (∀ w1, Below w.heap.size w w1 → Nums w1 pd d) := fun w1 hb => hd.below hb (Nat.le_refl _)
  have hZb : Hid (∀ w1, Below w.heap.size w w1 → TabZ w1) := fun w1 hb => hZ.below hb (Nat.le_refl _)
  by_cases h0 : pe n l d = 0
  · have hti : Hid (∀ w1, Below w.heap.size w w1 → _) := fun w1 hb => times_ok (cap := cap) (cd := cd) (hEb.out w1 hb) (hZb.out w1 hb) (hdb.out w1 hb) h0
    have hwy : Hid (∀ w1 E L S, Below w.heap.size w w1 → Pln l (nm d) d.length E L S → _) := fun w1 E L S hb hP => Way_ok (cap := cap) (cd := cd) (hEb.out w1 hb) (hZb.out w1 hb) (hdb.out w1 hb) h0 hP
    have hcr : Hid (∀ w1 E L S, Below w.heap.size w w1 → Pln l (nm d) d.length E L S → _) := fun w1 E L S hb hP => Critical_ok (cap := cap) (cd := cd) (hEb.out w1 hb) (hZb.out w1 hb) (hdb.out w1 hb) h0 hP
    obtain ⟨hc0, hdn, hdu, hac⟩ := pe_zero h0
    obtain ⟨hn0, hn60, hl4, _⟩ := chk_ok hc0
    obtain ⟨N, rfl⟩ : ∃ N : Nat, n = N := ⟨n.toNat, by omega⟩
    have hdN : d.length = N := by omega
    have hdNH : Hid (d.length = N) := hdN
    have hgH : Hid (Gr N l) := by have h3 := chk_gr hc0; rw [Int.toNat_natCast] at h3; exact h3
    have hlH : Hid (l.length ≤ 400) := hl4
    have hacH : Hid (∀ i, ¬ Rch (eB l) i i) := hac
    have hDH : Hid (∀ i, i < N → 0 ≤ nm d i ∧ nm d i ≤ 1000000000) := dur_nm hdN hdu
    have hnH : Hid (N ≤ 60) := hgH.out.n60
    rw [hdN] at hti hwy hcr ⊢
    clear h hd hZ hZb h0 hc0 hdn hdu hac hl4 hdN hn0 hn60
    go_enter Tryd.func8, Tryd.ntmps8
    go_wp2_with (first
      | (go_at_call 34; refine hpa.mono ?_; rintro e w1 ⟨rfl, hB1⟩; clear hpa)
      | (go_at_call 28; refine (hti.out w1 hB1).mono ?_; rintro e w2 ⟨⟨E, L, S, pE, cE, pL, cL, rfl, hP, hE2, hL2⟩, hb2⟩; clear hti; have hPH : Hid (Pln l (nm d) N E L S) := hP; clear hP hL2 hE2; have hB2 : Below w.heap.size w w2 := hB1.trans (hb2.mono hB1.size); obtain ⟨hbz, hz⟩ := plan_box w2 #[.slice pE N cE, .slice pL N cL, .int .i64 S])
      | (refine wpList_store_row rfl 49 _ _ rfl _ #[.slice pE N cE, .slice pL N cL, .int .i64 S] rfl rfl _ _ (heap_alloc_new w2 _) (plan_info _ rfl) rfl (plan_one _ _ _ _ _ _ _) ?_; generalize World.setRow (w2.alloc (.cells #[.slice none 0 0, .slice none 0 0, .int .i64 0] 49)) w2.heap.size #[.slice pE N cE, .slice pL N cL, .int .i64 S] = wz at *; have hBz : Below w.heap.size w wz := hB2.trans (hbz.mono hB2.size); have hw3 := hwy.out wz E L S hBz hPH.out; clear hwy hbz hB1 hB2 hb2)
      | (go_at_call 30; refine hw3.mono ?_; rintro e w4 ⟨⟨W, p4, c4, rfl, hR4, hWD⟩, hb4⟩; clear hw3; have hWH : Hid (WyD l (nm d) E L N S W) := hWD; clear hWD; have hB4 : Below w.heap.size w w4 := hBz.trans (hb4.mono hBz.size); have hz4 := (hb4.block w2.heap.size (Array.getElem?_eq_some_iff.1 hz).1).trans hz; have hw5 := hcr.out w4 E L S hB4 hPH.out; clear hcr hz hb4 hBz)
      | (go_at_call 29; refine hw5.mono ?_; rintro e w6 ⟨p6, c6, rfl, hR6, hb6⟩; clear hw5; have hB6 : Below w.heap.size w w6 := hB4.trans (hb6.mono hB4.size); have hz6 := (hb6.block w2.heap.size (Array.getElem?_eq_some_iff.1 hz4).1).trans hz4; have hR46 := row_below hR4 hb6; clear hz4 hb6 hR4 hB4)
      | go_in)
    have hB6H : Hid (Below w.heap.size w w6) := hB6
    have hz6H : Hid (w6.heap[w2.heap.size]? = some (.cells #[.slice pE N cE, .slice pL N cL, .int .i64 S] 49 (0, 0))) := hz6
    have hsum := hWH.out.sums hPH.out
    have hidx := hWH.out.way.idx
    have hfac := (hWH.out.way.facts hgH.out hacH.out).1
    have hfew := hWH.out.way.few hgH.out hacH.out
    have hzero := hWH.out.zero
    have hbd := hPH.out.bounds hgH.out hacH.out hDH.out
    have hs0 : Hid (smW E S W 0 = 0) := hsum.1
    have hsN : Hid (smW E S W W.length = S) := hsum.2.1
    have hstep : Hid (∀ k, k < W.length → bn W k < N ∧ (∃ j ∈ bl (crB E L) N, (j : Int) = (bn W k : Int)) ∧ smW E S W (k + 1) = smW E S W k + nm d (bn W k) ∧ 0 ≤ smW E S W k ∧ smW E S W k ≤ 61000000000) := fun k hk => by
      have hm : bn W k ∈ W := bn_mem hk
      have h1 := hfac _ hm
      have h2 := hsum.2.2 k hk
      have h3 := hbd.1 _ h1.1
      have h4 := hbd.2
      exact ⟨h1.1, ⟨bn W k, mem_bl.2 ⟨h1.1, decide_eq_true h1.2⟩, rfl⟩, by rw [h2.1, h2.2], by rw [h2.1]; omega, by rw [h2.1]; omega⟩
    have hedge : Hid (∀ k, k + 1 < W.length → (⟨(bn W k : Int), (bn W (k + 1) : Int)⟩ : Ed) ∈ l) := fun k hk => by
      obtain ⟨e, he, h1, h2⟩ := eB_true.1 (hidx.2 k hk).1
      have : e = ⟨(bn W k : Int), (bn W (k + 1) : Int)⟩ := by cases e; simp at h1 h2; simp [h1, h2]
      rwa [← this]
    have hz0 : Hid (W.length = 0 ↔ N = 0) := by show _ ↔ _; rw [List.length_eq_zero_iff]; exact hzero
    have hfH : Hid (W.length ≤ 61) := hfew
    clear hsum hidx hfac hfew hzero hbd hB6 hz6 hPH hWH
    obtain ⟨m, hm⟩ : ∃ m, W.length = m := ⟨_, rfl⟩
    have hmH : Hid (W.length = m) := hm
    rw [hm] at hR46 hsN hstep hedge hz0 hfH ⊢
    clear hm
    have hml : Hid ((bl (crB E L) N).length ≤ 100000) := by have := bl_len (crB E L) N; have := hnH.out; show _ ≤ _; omega
    have hRWH : Hid (w6.ownsRow wz.heap.size 3 1 (.slice p4 m c4) m (ints W)) := hR46
    have hRCH : Hid (w6.ownsRow w4.heap.size 3 1 (.slice p6 (bl (crB E L) N).length c6) (bl (crB E L) N).length (ints (bl (crB E L) N))) := hR6
    clear hR46 hR6
    generalize hC : bl (crB E L) N = C at *
    clear hC
    obtain ⟨mc, hmc⟩ : ∃ mc, C.length = mc := ⟨_, rfl⟩
    have hmcH : Hid (C.length = mc) := hmc
    rw [hmc] at hml hRCH ⊢
    clear hmc
    generalize w2.heap.size = gp at *
    go_loopw [13, 59] (fun sv iv wr => ∃ k : Nat, iv = .int .i64 k ∧ sv = .int .i64 (smW E S W k) ∧ k ≤ m ∧ Below w6.heap.size w6 wr)
      (fun _ iv _ => m - (intOf iv).toNat)
    case atStart => exact ⟨0, rfl, by rw [hs0.out], Nat.zero_le _, Below.refl _ _⟩
    case round =>
      obtain ⟨k, rfl, rfl, hkm, hbl⟩ := hrel
      have hBr : Hid (Below w.heap.size w wr) := hB6H.out.trans (hbl.mono hB6H.out.size)
      have hblH : Hid (Below w6.heap.size w6 wr) := hbl
      by_cases hk : k < m
      · have hki : (k : Int) < (m : Int) := by omega
        have hk2 : Hid (k ≤ 100000) := by have := hfH.out; show _ ≤ _; omega
        obtain ⟨s1, s2, s3, s4⟩ := hstep.out k hk
        obtain ⟨gw, rfl, t0, _⟩ := row_at (row_below hRWH.out hbl) hmH.out hk
        have hci := contains_i ((bn W k : Nat) : Int) hmcH.out hml.out (row_below hRCH.out hbl)
        have hdd : Hid (∀ w1, Below w.heap.size w w1 → ∃ b o, pd = some ⟨b, o, none⟩ ∧ w1.cell? ⟨b, o + bn W k, none⟩ = some (.int .i64 (nm d (bn W k)))) := fun w1 hb => by
          rcases hdb.out w1 hb with h0 | ⟨b, o, e, hA⟩
          · have := hdNH.out; omega
          · exact ⟨b, o, e, hA.c _ (by have := hdNH.out; omega)⟩
        have hDk := hDH.out _ s1
        have hws : Hid (wrap64 (smW E S W k + nm d (bn W k)) = smW E S W (k + 1)) := by show _ = _; rw [s3]; exact wrap_small (by omega)
        have s2H : Hid (∃ j ∈ C, (j : Int) = (bn W k : Int)) := s2
        have hXi : ((bn W k : Nat) : Int) < (N : Int) := by omega
        have hX0 : ¬ ((bn W k : Nat) : Int) < 0 := by omega
        have hXg : ¬ (N : Int) ≤ ((bn W k : Nat) : Int) := by omega
        cases k with
        | zero =>
          obtain ⟨b2, o2, rfl, d0⟩ := hdd.out wr hBr.out
          have t00 : wr.cell? ⟨gw, 0, none⟩ = some (.int .i64 ((bn W 0 : Nat) : Int)) := t0
          clear hdd hdb hEb s1 s2 s3 s4 hDk hstep hedge t0 hbl
          generalize bn W 0 = X at *
          generalize smW E S W 0 = sm at *
          generalize nm d X = y at *
          go_wp2_with (first
            | (go_at_call 35; refine hci.mono ?_; rintro e w' ⟨⟨z, rfl, hz⟩, hw'⟩; have hw'' := hw'.symm; subst hw''; clear hci; obtain rfl : z = true := hz.2 s2H.out; clear hz)
            | go_in)
          refine ⟨⟨1, rfl, by rw [hws.out], hk, hblH.out⟩, ?_⟩
          simp [intOf]
          omega
        | succ j =>
          obtain ⟨gw', egw, t1, _⟩ := row_at (row_below hRWH.out hbl) hmH.out (k := j) (by omega)
          obtain rfl : gw = gw' := by simpa using egw
          have hmem : Hid ((⟨(bn W j : Int), (bn W (j + 1) : Int)⟩ : Ed) ∈ l) := hedge.out j hk
          have hcd := contains_d (c := cap) ((bn W j : Nat) : Int) ((bn W (j + 1) : Nat) : Int) rfl (hEb.out wr hBr.out) (Nat.le_trans hlH.out (by omega))
          clear hdb hEb s1 s2 s3 s4 hDk hstep hedge hbl egw
          generalize bn W (j + 1) = X at *
          generalize bn W j = Y at *
          generalize smW E S W (j + 1) = sm at *
          generalize nm d X = y at *
          have hwi : wrap64 (j : Int) = (j : Int) := wrap_small (by have := hk2.out; omega)
          go_wp2_with (first
            | (go_at_call 35; refine hci.mono ?_; rintro e w' ⟨⟨z, rfl, hz⟩, hw'⟩; have hw'' := hw'.symm; subst hw''; clear hci; obtain rfl : z = true := hz.2 s2H.out; clear hz)
            | (go_at_call 25; refine hcd.mono ?_; rintro e w8 ⟨⟨z8, rfl, hz8⟩, hb8⟩; clear hcd; obtain rfl : z8 = true := hz8.2 hmem.out; clear hz8; have hB8 : Below w.heap.size w w8 := hBr.out.trans (hb8.mono hBr.out.size); obtain ⟨b2, o2, rfl, d0⟩ := hdd.out w8 hB8)
            | go_in)
          refine ⟨⟨j + 1 + 1, ?_, by rw [hws.out], hk, hblH.out.trans (hb8.mono hblH.out.size)⟩, ?_⟩
          · first | exact int_succ (j + 1) | exact int_wsucc hk2.out | (simp; done) | (congr 1; have := hk2.out; unfold wrap64; omega)
          · first | exact meas_1 hk | exact meas_w hk hk2.out | (simp [intOf]; omega) | (have h9 : wrap64 ((j : Int) + 1 + 1) = (j : Int) + 1 + 1 := (by have := hk2.out; unfold wrap64; omega); rw [h9]; simp [intOf]; omega)
      · have hki : ¬ (k : Int) < (m : Int) := by omega
        have e : k = m := by omega
        subst e
        rw [hsN.out]
        have zr := (hbl.block gp (Array.getElem?_eq_some_iff.1 hz6H.out).1).trans hz6H.out
        have q2 := cell_alloc (box_cell zr 2 rfl) (.cells #[.int .i64 0, .int .i64 0] 24)
        have hn13 := heap_alloc_new wr (.cells #[.int .i64 0, .int .i64 0] 24)
        have hgd := good2 wr.heap.size 0 0 _ ((cell_of_row _ _ 0 _ _ _ hn13).trans rfl) ((cell_of_row _ _ 1 _ _ _ hn13).trans rfl)
        have hBA : Hid (Below w.heap.size w (wr.alloc (.cells #[.int .i64 0, .int .i64 0] 24))) := hBr.out.alloc hBr.out.size _
        have hSS : (S == S) = true := by simp
        clear zr hn13 hbl hstep hedge hdb hEb
        by_cases hN0 : N = 0
        · have hk0 : k = 0 := hz0.out.2 hN0
          have n1 : ((N : Int) == 0) = true := by simp [hN0]
          have n2 : ((k : Int) == 0) = true := by simp [hk0]
          clear hN0 hk0
          go_wp2_with (first
            | (go_at_call 36; refine hgd.mono ?_; rintro e w' ⟨rfl, hw'⟩; have hw'' := hw'.symm; subst hw''; clear hgd)
            | go_in)
          go_ret
          exact ⟨by first | rfl | simp, hBA.out⟩
        · have hk0 : ¬ k = 0 := fun x => hN0 (hz0.out.1 x)
          have n1 : ((N : Int) == 0) = false := by simp; omega
          have n2 : ((k : Int) == 0) = false := by simp; omega
          clear hN0 hk0
          go_wp2_with (first
            | (go_at_call 36; refine hgd.mono ?_; rintro e w' ⟨rfl, hw'⟩; have hw'' := hw'.symm; subst hw''; clear hgd)
            | go_in)
          go_ret
          exact ⟨by first | rfl | simp, hBA.out⟩
  · have hti : Hid (∀ w1, Below w.heap.size w w1 → _) := fun w1 hb => times_bad (cap := cap) (cd := cd) (hEb.out w1 hb) (hZb.out w1 hb) (hdb.out w1 hb) h0
    have hwb : Hid (∀ w1, Below w.heap.size w w1 → _) := fun w1 hb => Way_bad (cap := cap) (cd := cd) (hEb.out w1 hb) (hZb.out w1 hb) (hdb.out w1 hb) h0
    have hcb : Hid (∀ w1, Below w.heap.size w w1 → _) := fun w1 hb => Critical_bad (cap := cap) (cd := cd) (hEb.out w1 hb) (hZb.out w1 hb) (hdb.out w1 hb) h0
    have hc0 : (pe n l d == 0) = false := by simpa using h0
    have hc1 : (pe n l d != 0) = true := by simpa using h0
    generalize pe n l d = y at *
    have hyy : (y == y) = true := by simp
    clear h0 h hd hZ hZb hEb hdb
    go_enter Tryd.func8, Tryd.ntmps8
    go_wp2_with (first
      | (go_at_call 34; refine hpa.mono ?_; rintro e w1 ⟨rfl, hB1⟩; clear hpa)
      | (go_at_call 28; refine (hti.out w1 hB1).mono ?_; rintro e w2 ⟨rfl, hb2⟩; clear hti; have hB2 : Below w.heap.size w w2 := hB1.trans (hb2.mono hB1.size); obtain ⟨hbz, hz⟩ := plan_box w2 #[.slice none 0 0, .slice none 0 0, .int .i64 0])
      | (refine wpList_store_row rfl 49 _ _ rfl _ #[.slice none 0 0, .slice none 0 0, .int .i64 0] rfl rfl _ _ (heap_alloc_new w2 _) (plan_info _ rfl) rfl (plan_one _ _ _ _ _ _ _) ?_; generalize World.setRow (w2.alloc (.cells #[.slice none 0 0, .slice none 0 0, .int .i64 0] 49)) w2.heap.size #[.slice none 0 0, .slice none 0 0, .int .i64 0] = wz at *; have hBz : Below w.heap.size w wz := hB2.trans (hbz.mono hB2.size))
      | (go_at_call 30; refine (hwb.out wz hBz).mono ?_; rintro e w4 ⟨rfl, hb4⟩; clear hwb; have hB4 : Below w.heap.size w w4 := hBz.trans (hb4.mono hBz.size))
      | (go_at_call 29; refine (hcb.out w4 hB4).mono ?_; rintro e w5 ⟨rfl, hb5⟩; clear hcb; have hB5 : Below w.heap.size w w5 := hB4.trans (hb5.mono hB4.size))
      | go_in)
    go_ret
    exact ⟨by first | rfl | simp, hB5⟩
end Go.Proofs.YtncjnmlgkhngaaaDoor
