/- PathScale, walked. -/
import Derived.Test.YtncjnmlgkhngaabDoorPal
namespace Go.Proofs.YtncjnmlgkhngaabDoor
open Go.RowKit Gm Pm
set_option linter.unusedSectionVars false
set_option linter.unusedVariables false

theorem Nums.at'' {w : World} {q : Option Addr} {d : List Int} (h : Nums w q d) {i : Nat} (hi : i < d.length) : ∃ b o, q = some ⟨b, o, none⟩ ∧ w.cell? ⟨b, o + i, none⟩ = some (.int .i64 (nm d i)) := by
  rcases h with h0 | ⟨b, o, e, hA⟩
  · omega
  · exact ⟨b, o, e, hA.c i hi⟩
/-- A row of numbers of one's own is a slice of numbers. -/
theorem nums_row {w : World} {B : Nat} {t : TypeId} {p : Option Addr} {n c : Nat} {m : List Int} (h : w.ownsRow B t 1 (.slice p n c) n (numf (nm m) n)) (hn : m.length = n) : Nums w p m := by
  rcases h.2 with ⟨_, h0⟩ | ⟨g, cap, cur, hv, hB, hg, _⟩
  · exact Or.inl (by omega)
  · obtain ⟨rfl, rfl⟩ : p = some ⟨g, 0, none⟩ ∧ c = cap := by simpa using hv
    refine Or.inr ⟨g, 0, rfl, (Array.getElem?_eq_some_iff.1 hg).1, fun j hj => ?_⟩
    rw [Nat.zero_add, h.cellAt j (by omega), numf_get (by omega)]
theorem nm_scale (d : List Int) (b : Int) : nm (d.map (· * b)) = fun k => nm d k * b := by
  funext k
  unfold nm
  by_cases hk : k < d.length
  · simp [hk]
  · simp [hk]
theorem numf_snoc (E : Nat → Int) (n : Nat) : numf E (n + 1) = numf E n ++ [.int .i64 (E n)] := by
  unfold numf
  rw [List.range_succ, List.map_append]
  rfl
theorem mul_in {x b A : Int} (hx : 0 ≤ x ∧ x ≤ A) (hb : 0 ≤ b ∧ b ≤ 1000) (hA : 0 ≤ A) : 0 ≤ x * b ∧ x * b ≤ A * 1000 :=
  ⟨Int.mul_nonneg hx.1 hb.1, Int.le_trans (Int.mul_le_mul_of_nonneg_right hx.2 hb.1) (Int.mul_le_mul_of_nonneg_left hb.2 hA)⟩
theorem pe_other {n : Int} {l : List Ed} {d m : List Int} (h : pe n l d = 0) (hm : m.length = d.length) : pe n l m = 0 ∨ pe n l m = 1 := by
  obtain ⟨h0, h1, h2, h3⟩ := pe_zero h
  unfold pe
  rw [if_pos h0]
  by_cases hd : durB m = true
  · left
    rw [if_pos ⟨by rw [hm]; exact h1, hd⟩, if_neg (fun x => by obtain ⟨i, hi⟩ := (knot_cyc h0).2 x; exact h3 i hi)]
  · right
    rw [if_neg (fun x => hd x.2)]

set_option maxHeartbeats 4000000 in
set_option maxRecDepth 100000 in
theorem pathScale_walk (n : Int) (q : Option Addr) (l : List Ed) (cap : Nat) (pd : Option Addr) (d : List Int) (cd : Nat) (by_ : Int) (w : World) (hZ : TabZ w) (h : Eds w q l) (hd : Nums w pd d) :
    Calls Tryd.prog 5 #[.int .i64 n, .slice q l.length cap, .slice pd d.length cd, .int .i64 by_] w fun e w' => e = .returned (.bool true) ∧ Below w.heap.size w w' := by
  have hpa := paths_any w hZ
  have hEb : Hid (∀ w1, Below w.heap.size w w1 → Eds w1 q l) := fun w1 hb => h.below hb (Nat.le_refl _)
  have hdb : Hid (∀ w1, Below w.heap.size w w1 → Nums w1 pd d) := fun w1 hb => hd.below hb (Nat.le_refl _)
  have hZb : Hid (∀ w1, Below w.heap.size w w1 → TabZ w1) := fun w1 hb => hZ.below hb (Nat.le_refl _)
  by_cases h0 : pe n l d = 0
  · have hti : Hid (∀ w1, Below w.heap.size w w1 → _) := fun w1 hb => times_ok (cap := cap) (cd := cd) (hEb.out w1 hb) (hZb.out w1 hb) (hdb.out w1 hb) h0
    have hpo : Hid (∀ b : Int, pe n l (d.map (· * b)) = 0 ∨ pe n l (d.map (· * b)) = 1) := fun b => pe_other h0 (by simp)
    obtain ⟨hc0, hdn, hdu, hac⟩ := pe_zero h0
    obtain ⟨hn0, hn60, hl4, _⟩ := chk_ok hc0
    obtain ⟨N, rfl⟩ : ∃ N : Nat, n = N := ⟨n.toNat, by omega⟩
    have hdN : d.length = N := by omega
    have hdNH : Hid (d.length = N) := hdN
    have hgH : Hid (Gr N l) := by have h3 := chk_gr hc0; rw [Int.toNat_natCast] at h3; exact h3
    have hacH : Hid (∀ i, ¬ Rch (eB l) i i) := hac
    have hDH : Hid (∀ i, i < N → 0 ≤ nm d i ∧ nm d i ≤ 1000000000) := dur_nm hdN hdu
    have hnH : Hid (N ≤ 60) := hgH.out.n60
    rw [hdN] at hti ⊢
    clear h hd hZ h0 hc0 hdn hdu hac hl4 hdN hn0 hn60
    by_cases hb0 : by_ < 0
    · clear hpo
      go_enter Tryd.func5, Tryd.ntmps5
      go_wp2_with (first
        | (go_at_call 6; refine hpa.mono ?_; rintro e w1 ⟨rfl, hB1⟩; clear hpa)
        | (go_at_call 7; refine (hti.out w1 hB1).mono ?_; rintro e w2 ⟨⟨E, L, S, pE, cE, pL, cL, rfl, hP, hE2, hL2⟩, hb2⟩; clear hti hP hE2 hL2; have hB2 : Below w.heap.size w w2 := hB1.trans (hb2.mono hB1.size); obtain ⟨hbz, hz⟩ := plan_box w2 #[.slice pE N cE, .slice pL N cL, .int .i64 S])
        | (refine wpList_store_row rfl 26 _ _ rfl _ #[.slice pE N cE, .slice pL N cL, .int .i64 S] rfl rfl _ _ (heap_alloc_new w2 _) (plan_info _ rfl) rfl (plan_one _ _ _ _ _ _ _) ?_; generalize World.setRow (w2.alloc (.cells #[.slice none 0 0, .slice none 0 0, .int .i64 0] 26)) w2.heap.size #[.slice pE N cE, .slice pL N cL, .int .i64 S] = wz at *)
        | go_in)
      go_ret
      exact ⟨by first | rfl | simp, hB2.trans (hbz.mono hB2.size)⟩
    by_cases hb1 : 1000 < by_
    · clear hpo
      go_enter Tryd.func5, Tryd.ntmps5
      go_wp2_with (first
        | (go_at_call 6; refine hpa.mono ?_; rintro e w1 ⟨rfl, hB1⟩; clear hpa)
        | (go_at_call 7; refine (hti.out w1 hB1).mono ?_; rintro e w2 ⟨⟨E, L, S, pE, cE, pL, cL, rfl, hP, hE2, hL2⟩, hb2⟩; clear hti hP hE2 hL2; have hB2 : Below w.heap.size w w2 := hB1.trans (hb2.mono hB1.size); obtain ⟨hbz, hz⟩ := plan_box w2 #[.slice pE N cE, .slice pL N cL, .int .i64 S])
        | (refine wpList_store_row rfl 26 _ _ rfl _ #[.slice pE N cE, .slice pL N cL, .int .i64 S] rfl rfl _ _ (heap_alloc_new w2 _) (plan_info _ rfl) rfl (plan_one _ _ _ _ _ _ _) ?_; generalize World.setRow (w2.alloc (.cells #[.slice none 0 0, .slice none 0 0, .int .i64 0] 26)) w2.heap.size #[.slice pE N cE, .slice pL N cL, .int .i64 S] = wz at *)
        | go_in)
      go_ret
      exact ⟨by first | rfl | simp, hB2.trans (hbz.mono hB2.size)⟩
    have hbH : Hid (0 ≤ by_ ∧ by_ ≤ 1000) := by constructor <;> omega
    have hMD : Hid (∀ i, i < N → 0 ≤ nm d i * by_ ∧ nm d i * by_ ≤ 1000000000000) := fun i hi => mul_in (hDH.out i hi) hbH.out (by omega)
    go_enter Tryd.func5, Tryd.ntmps5
    go_wp2_with (first
      | (go_at_call 6; refine hpa.mono ?_; rintro e w1 ⟨rfl, hB1⟩; clear hpa)
      | (go_at_call 7; refine (hti.out w1 hB1).mono ?_; rintro e w2 ⟨⟨E, L, S, pE, cE, pL, cL, rfl, hP, hE2, hL2⟩, hb2⟩; clear hti; have hPH : Hid (Pln l (nm d) N E L S) := hP; clear hP; have hB2 : Below w.heap.size w w2 := hB1.trans (hb2.mono hB1.size); obtain ⟨hbz, hz⟩ := plan_box w2 #[.slice pE N cE, .slice pL N cL, .int .i64 S])
      | (refine wpList_store_row rfl 26 _ _ rfl _ #[.slice pE N cE, .slice pL N cL, .int .i64 S] rfl rfl _ _ (heap_alloc_new w2 _) (plan_info _ rfl) rfl (plan_one _ _ _ _ _ _ _) ?_; generalize World.setRow (w2.alloc (.cells #[.slice none 0 0, .slice none 0 0, .int .i64 0] 26)) w2.heap.size #[.slice pE N cE, .slice pL N cL, .int .i64 S] = wz at *)
      | go_in)
    have hBz : Hid (Below w.heap.size w wz) := hB2.trans (hbz.mono hB2.size)
    have hzH : Hid (wz.heap[w2.heap.size]? = some (.cells #[.slice pE N cE, .slice pL N cL, .int .i64 S] 26 (0, 0))) := hz
    have hEz : Hid (wz.ownsRow w1.heap.size 2 1 (.slice pE N cE) N (numf E N)) := row_below hE2 hbz
    have hLz : Hid (wz.ownsRow w1.heap.size 2 1 (.slice pL N cL) N (numf L N)) := row_below hL2 hbz
    clear hE2 hL2 hbz hz hB1 hB2 hb2
    generalize w2.heap.size = gp at *
    generalize w1.heap.size = gw at *
    go_loopw [11, 45] (fun mv iv wr => ∃ (i : Nat) (p : Option Addr) (c : Nat), iv = .int .i64 i ∧ mv = .slice p i c ∧ i ≤ N ∧ wr.ownsRow wz.heap.size 2 1 (.slice p i c) i (numf (fun k => nm d k * by_) i) ∧ Below wz.heap.size wz wr)
      (fun _ iv _ => N - (intOf iv).toNat)
    case atStart => exact ⟨0, none, 0, rfl, rfl, Nat.zero_le _, World.ownsRow_nil _ _ _ _, Below.refl _ _⟩
    case round =>
      obtain ⟨i, p, c, rfl, rfl, hiN, hown, hbl⟩ := hrel
      have hBr : Hid (Below w.heap.size w wr) := hBz.out.trans (hbl.mono hBz.out.size)
      by_cases hi : i < N
      · have hii : (i : Int) < (N : Int) := by omega
        have hi2 : Hid (i ≤ 100000) := by have := hnH.out; show _ ≤ _; omega
        have hi60 : Hid (i ≤ 60) := by have := hnH.out; show _ ≤ _; omega
        obtain ⟨b, o, rfl, d0⟩ := (hdb.out wr hBr.out).at'' (i := i) (by have := hdNH.out; omega)
        have hsn : Hid (numf (fun k => nm d k * by_) (i + 1) = numf (fun k => nm d k * by_) i ++ [.int .i64 (nm d i * by_)]) := numf_snoc _ _
        have hws : wrap64 (nm d i * by_) = nm d i * by_ := wrap_small (by have := hMD.out i hi; omega)
        have hszw := hbl.size
        generalize numf (fun k => nm d k * by_) i = xs at *
        obtain ⟨z, hz⟩ : ∃ z, nm d i * by_ = z := ⟨_, rfl⟩
        rw [hz] at hws hsn
        have hws2 : wrap64 (nm d i * by_) = z := by rw [hz]; exact hws
        generalize nm d i = x at *
        clear hz hws
        go_wp2_with (first
          | (at_builtin; obtain ⟨i0, hi9, hz0, hz1, hz2⟩ := info_parts info_i64; refine wpList_append_own _ rfl _ _ 23 rfl wz.heap.size 2 i0 (.int .i64 0) 1 8 Tryd.underlying23 hi9 hz0 hz1 hz2 rfl (by decide) _ _ _ rfl (hown.alloc _) ⟨wr.heap.size, 0, none⟩ 1 1 [.int .i64 z] rfl rfl (cells_new _ _ _) (fun v hv => by simp at hv; subst hv; rfl) (by unfold maxLen; have := hi60.out; omega) (by have := hi60.out; omega) (by simp; omega) ?_; intro v' w5 hown5 hgrow5 hnil5; clear hi9 hz0 hz1 hz2 hnil5; obtain ⟨g5, cap5, rfl⟩ := form_succ hown5)
          | go_in)
        have hgA : (wr.alloc (.cells #[.int .i64 z] 2)).grownBy w5 (Value.ownBlock (.slice p i c)) := hgrow5
        refine ⟨⟨i + 1, some ⟨g5, 0, none⟩, cap5, ?_, rfl, hi, by rw [hsn.out]; exact hown5, below_app hbl hown hgA (Nat.le_refl _) hszw⟩, ?_⟩
        · first | exact int_succ i | exact int_wsucc hi2.out
        · first | exact meas_1 hi | exact meas_w hi hi2.out
      · have hii : ¬ (i : Int) < (N : Int) := by omega
        have e : i = N := by omega
        subst e
        rw [← nm_scale] at hown
        have hml : (d.map (· * by_)).length = i := by rw [List.length_map]; exact hdNH.out
        have hmn := nums_row hown hml
        have hzr : wr.heap[gp]? = some (.cells #[.slice pE i cE, .slice pL i cL, .int .i64 S] 26 (0, 0)) := (hbl.block gp (Array.getElem?_eq_some_iff.1 hzH.out).1).trans hzH.out
        have hEr := row_below hEz.out hbl
        have hLr := row_below hLz.out hbl
        clear hown hbl hEz hLz hzH
        rcases hpo.out by_ with hp0 | hp1
        · have ht2 := times_ok (cap := cap) (cd := c) (hEb.out wr hBr.out) (hZb.out wr hBr.out) hmn hp0
          rw [hml] at ht2
          have huq : Hid (∀ E' L' S', Pln l (nm (d.map (· * by_))) i E' L' S' → (∀ k, k < i → E' k = E k * by_) ∧ (∀ k, k < i → L' k = L k * by_) ∧ S' = S * by_) := fun E' L' S' h' => by
            rw [nm_scale] at h'
            exact h'.uniq hgH.out hacH.out (hPH.out.scale hbH.out.1)
          have hbd := hPH.out.bounds hgH.out hacH.out hDH.out
          have hmE : Hid (∀ k, k < i → 0 ≤ E k * by_ ∧ E k * by_ ≤ 61000000000 * 1000) := fun k hk => mul_in (by have := hbd.1 k hk; omega) hbH.out (by omega)
          have hmL : Hid (∀ k, k < i → 0 ≤ L k * by_ ∧ L k * by_ ≤ 61000000000 * 1000) := fun k hk => mul_in (by have := hbd.1 k hk; omega) hbH.out (by omega)
          have hmS : Hid (0 ≤ S * by_ ∧ S * by_ ≤ 61000000000 * 1000) := mul_in (by omega) hbH.out (by omega)
          clear hmn hp0 hpo hbd hb0 hb1
          go_wp2_with (first
            | (go_at_call 7; refine ht2.mono ?_; rintro e w6 ⟨⟨E', L', S', pE', cE', pL', cL', rfl, hP', hE6, hL6⟩, hb6⟩; clear ht2; obtain ⟨u1, u2, rfl⟩ := huq.out E' L' S' hP'; clear huq hP'; rw [numf_congr u1] at hE6; rw [numf_congr u2] at hL6; clear u1 u2; have hB6 : Below w.heap.size w w6 := hBr.out.trans (hb6.mono hBr.out.size); have hz6 := (hb6.block gp (Array.getElem?_eq_some_iff.1 hzr).1).trans hzr; have hE5 := row_below hEr hb6; have hL5 := row_below hLr hb6; obtain ⟨hby, hy⟩ := plan_box w6 #[.slice pE' i cE', .slice pL' i cL', .int .i64 (S * by_)])
            | (refine wpList_store_row rfl 26 _ _ rfl _ #[.slice pE' i cE', .slice pL' i cL', .int .i64 (S * by_)] rfl rfl _ _ (heap_alloc_new w6 _) (plan_info _ rfl) rfl (plan_one _ _ _ _ _ _ _) ?_; generalize World.setRow (w6.alloc (.cells #[.slice none 0 0, .slice none 0 0, .int .i64 0] 26)) w6.heap.size #[.slice pE' i cE', .slice pL' i cL', .int .i64 (S * by_)] = wy at *)
            | go_in)
          have hBy : Hid (Below w.heap.size w wy) := hB6.trans (hby.mono hB6.size)
          have hzy : Hid (wy.heap[gp]? = some (.cells #[.slice pE i cE, .slice pL i cL, .int .i64 S] 26 (0, 0))) := (hby.block gp (Array.getElem?_eq_some_iff.1 hz6).1).trans hz6
          have hyH : Hid (wy.heap[w6.heap.size]? = some (.cells #[.slice pE' i cE', .slice pL' i cL', .int .i64 (S * by_)] 26 (0, 0))) := hy
          have hE5H : Hid (wy.ownsRow gw 2 1 (.slice pE i cE) i (numf E i)) := row_below hE5 hby
          have hL5H : Hid (wy.ownsRow gw 2 1 (.slice pL i cL) i (numf L i)) := row_below hL5 hby
          have hE6H : Hid (wy.ownsRow wr.heap.size 2 1 (.slice pE' i cE') i (numf (fun k => E k * by_) i)) := row_below hE6 hby
          have hL6H : Hid (wy.ownsRow wr.heap.size 2 1 (.slice pL' i cL') i (numf (fun k => L k * by_) i)) := row_below hL6 hby
          clear hz6 hy hE5 hL5 hE6 hL6 hby hb6 hB6 hzr hEr hLr
          generalize w6.heap.size = gq at *
          go_loopw [74] (fun kv wk => ∃ k : Nat, kv = .int .i64 k ∧ k ≤ i ∧ Below wy.heap.size wy wk)
            (fun kv _ => i - (intOf kv).toNat)
          case atStart => exact ⟨0, rfl, Nat.zero_le _, Below.refl _ _⟩
          case round =>
            rename World => wk
            obtain ⟨k, rfl, hki, hbk⟩ := hrel
            have hBk : Hid (Below w.heap.size w wk) := hBy.out.trans (hbk.mono hBy.out.size)
            have zp := (hbk.block gp (Array.getElem?_eq_some_iff.1 hzy.out).1).trans hzy.out
            have zq := (hbk.block gq (Array.getElem?_eq_some_iff.1 hyH.out).1).trans hyH.out
            by_cases hk : k < i
            · have hkii : (k : Int) < (i : Int) := by omega
              have hk2 : Hid (k ≤ 100000) := by have := hnH.out; show _ ≤ _; omega
              obtain ⟨g1, rfl, e1, _⟩ := row_num (row_below hE5H.out hbk) hk
              obtain ⟨g2, rfl, e2, _⟩ := row_num (row_below hL5H.out hbk) hk
              obtain ⟨g3, rfl, e3, _⟩ := row_num (row_below hE6H.out hbk) hk
              obtain ⟨g4, rfl, e4, _⟩ := row_num (row_below hL6H.out hbk) hk
              have a0 := box_cell zp 0 rfl
              have a1 := box_cell zp 1 rfl
              have b0 := box_cell zq 0 rfl
              have b1 := box_cell zq 1 rfl
              have hk0 : ¬ (k : Int) < 0 := by omega
              have hkg : ¬ (i : Int) ≤ (k : Int) := by omega
              have w1 : wrap64 (E k * by_) = E k * by_ := by have := hmE.out k hk; unfold wrap64; omega
              have w2 : wrap64 (L k * by_) = L k * by_ := by have := hmL.out k hk; unfold wrap64; omega
              have hbkH : Hid (Below wy.heap.size wy wk) := hbk
              clear hbk hBk zp zq
              have n1 : (E k * by_ != E k * by_) = false := by simp
              have n2 : (L k * by_ != L k * by_) = false := by simp
              have v1 : IntKind.i64.wrap (E k * by_) = E k * by_ := by have := hmE.out k hk; rw [IntKind.wrap_i64]; omega
              have v2 : IntKind.i64.wrap (L k * by_) = L k * by_ := by have := hmL.out k hk; rw [IntKind.wrap_i64]; omega
              generalize E k = y1 at *
              generalize L k = y2 at *
              go_wp2
              go_quiet (fail)
              go_wp2
              refine ⟨⟨k + 1, ?_, hk, drewN_below hbkH.out nq⟩, ?_⟩
              · first | exact int_succ k | exact int_wsucc hk2.out
              · first | exact meas_1 hk | exact meas_w hk hk2.out
            · have hkii : ¬ (k : Int) < (i : Int) := by omega
              have a2 := box_cell zp 2 rfl
              have b2 := box_cell zq 2 rfl
              have w1 : wrap64 (S * by_) = S * by_ := by have := hmS.out; unfold wrap64; omega
              clear zp zq hbk
              go_wp2
              go_ret
              exact ⟨by first | rfl | simp, hBk.out⟩
        · have ht2 := times_bad (cap := cap) (cd := c) (hEb.out wr hBr.out) (hZb.out wr hBr.out) hmn (by rw [hp1]; decide)
          rw [hml, hp1] at ht2
          clear hmn hp1 hpo hEr hLr
          go_wp2_with (first
            | (go_at_call 7; refine ht2.mono ?_; rintro e w6 ⟨rfl, hb6⟩; clear ht2; have hB6 : Below w.heap.size w w6 := hBr.out.trans (hb6.mono hBr.out.size); obtain ⟨hby, hy⟩ := plan_box w6 #[.slice none 0 0, .slice none 0 0, .int .i64 0])
            | (refine wpList_store_row rfl 26 _ _ rfl _ #[.slice none 0 0, .slice none 0 0, .int .i64 0] rfl rfl _ _ (heap_alloc_new w6 _) (plan_info _ rfl) rfl (plan_one _ _ _ _ _ _ _) ?_; generalize World.setRow (w6.alloc (.cells #[.slice none 0 0, .slice none 0 0, .int .i64 0] 26)) w6.heap.size #[.slice none 0 0, .slice none 0 0, .int .i64 0] = wy at *; have p2 : wy.cell? ⟨w6.heap.size, 2, none⟩ = some (.int .i64 0) := box_cell hy 2 rfl)
            | go_in)
          go_ret
          exact ⟨by first | rfl | simp, hB6.trans (hby.mono hB6.size)⟩
  · have hti : Hid (∀ w1, Below w.heap.size w w1 → _) := fun w1 hb => times_bad (cap := cap) (cd := cd) (hEb.out w1 hb) (hZb.out w1 hb) (hdb.out w1 hb) h0
    have hc0 : (pe n l d == 0) = false := by simpa using h0
    have hc1 : (pe n l d != 0) = true := by simpa using h0
    generalize pe n l d = y at *
    clear h0 h hd hZ hZb hEb hdb
    go_enter Tryd.func5, Tryd.ntmps5
    go_wp2_with (first
      | (go_at_call 6; refine hpa.mono ?_; rintro e w1 ⟨rfl, hB1⟩; clear hpa)
      | (go_at_call 7; refine (hti.out w1 hB1).mono ?_; rintro e w2 ⟨rfl, hb2⟩; clear hti; have hB2 : Below w.heap.size w w2 := hB1.trans (hb2.mono hB1.size); obtain ⟨hbz, hz⟩ := plan_box w2 #[.slice none 0 0, .slice none 0 0, .int .i64 0])
      | (refine wpList_store_row rfl 26 _ _ rfl _ #[.slice none 0 0, .slice none 0 0, .int .i64 0] rfl rfl _ _ (heap_alloc_new w2 _) (plan_info _ rfl) rfl (plan_one _ _ _ _ _ _ _) ?_; generalize World.setRow (w2.alloc (.cells #[.slice none 0 0, .slice none 0 0, .int .i64 0] 26)) w2.heap.size #[.slice none 0 0, .slice none 0 0, .int .i64 0] = wz at *; have p2 : wz.cell? ⟨w2.heap.size, 2, none⟩ = some (.int .i64 0) := box_cell hz 2 rfl)
      | go_in)
    go_ret
    exact ⟨by first | rfl | simp, hB2.trans (hbz.mono hB2.size)⟩
end Go.Proofs.YtncjnmlgkhngaabDoor
