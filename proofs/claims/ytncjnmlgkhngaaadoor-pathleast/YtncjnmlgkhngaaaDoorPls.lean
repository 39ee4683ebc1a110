/- PathLeast, walked. -/
import Derived.Test.YtncjnmlgkhngaaaDoorPal
namespace Go.Proofs.YtncjnmlgkhngaaaDoor
open Go.RowKit Gm Pm
set_option linter.unusedSectionVars false
set_option linter.unusedVariables false

/-- Where a slice of numbers lies, a cell of it. -/
theorem Nums.at {w : World} {q : Option Addr} {d : List Int} (h : Nums w q d) {i : Nat} (hi : i < d.length) : ∃ b o, q = some ⟨b, o, none⟩ ∧ w.cell? ⟨b, o + i, none⟩ = some (.int .i64 (nm d i)) := by
  rcases h with h0 | ⟨b, o, e, hA⟩
  · omega
  · exact ⟨b, o, e, hA.c i hi⟩

set_option maxHeartbeats 4000000 in
set_option maxRecDepth 100000 in
theorem pathLeast_walk (n : Int) (q : Option Addr) (l : List Ed) (cap : Nat) (pd : Option Addr) (d : List Int) (cd : Nat) (pt : Option Addr) (t : List Int) (ct : Nat) (w : World) (hZ : TabZ w) (h : Eds w q l) (hd : Nums w pd d) (ht : Nums w pt t) :
    Calls Tryd.prog 7 #[.int .i64 n, .slice q l.length cap, .slice pd d.length cd, .slice pt t.length ct] w fun e w' => e = .returned (.bool true) ∧ Below w.heap.size w w' := by
  have hpa := paths_any w hZ
  have hEb : Hid (∀ w1, Below w.heap.size w w1 → Eds w1 q l) := fun w1 hb => h.below hb (Nat.le_refl _)
  have hdb : Hid (∀ w1, Below w.heap.size w w1 → Nums w1 pd d) := fun w1 hb => hd.below hb (Nat.le_refl _)
  have htb : Hid (∀ w1, Below w.heap.size w w1 → Nums w1 pt t) := fun w1 hb => ht.below hb (Nat.le_refl _)
  have hZb : Hid (∀ w1, Below w.heap.size w w1 → TabZ w1) := fun w1 hb => hZ.below hb (Nat.le_refl _)
  by_cases h0 : pe n l d = 0
  · have hti : Hid (∀ w1, Below w.heap.size w w1 → _) := fun w1 hb => times_ok (cap := cap) (cd := cd) (hEb.out w1 hb) (hZb.out w1 hb) (hdb.out w1 hb) h0
    obtain ⟨hc0, hdn, hdu, hac⟩ := pe_zero h0
    obtain ⟨hn0, hn60, hl4, _⟩ := chk_ok hc0
    obtain ⟨N, rfl⟩ : ∃ N : Nat, n = N := ⟨n.toNat, by omega⟩
    have hdN : d.length = N := by omega
    have hdNH : Hid (d.length = N) := hdN
    have hgH : Hid (Gr N l) := by have h3 := chk_gr hc0; rw [Int.toNat_natCast] at h3; exact h3
    have hlH : Hid (l.length ≤ 400) := hl4
    have hacH : Hid (∀ i, ¬ Rch (eB l) i i) := hac
    have hDH : Hid (∀ i, i < N → 0 ≤ nm d i ∧ nm d i ≤ 1000000000) := dur_nm hdN hdu
    have hnH : Hid (N ≤ 60) := hgH.out.n60
    rw [hdN] at hti ⊢
    clear h hd ht hZ hZb h0 hc0 hdn hdu hac hl4 hdN hn0 hn60
    by_cases htn : (t.length : Int) = N
    · have htN : t.length = N := by omega
      have htNH : Hid (t.length = N) := htN
      rw [htN]
      have hNN : ((N : Int) != (N : Int)) = false := by simp
      clear htn htN
      go_enter Tryd.func7, Tryd.ntmps7
      go_wp2_with (first
        | (go_at_call 34; refine hpa.mono ?_; rintro e w1 ⟨rfl, hB1⟩; clear hpa)
        | (go_at_call 28; refine (hti.out w1 hB1).mono ?_; rintro e w2 ⟨⟨E, L, S, pE, cE, pL, cL, rfl, hP, hE2, hL2⟩, hb2⟩; clear hti; have hPH : Hid (Pln l (nm d) N E L S) := hP; clear hP hL2; have hB2 : Below w.heap.size w w2 := hB1.trans (hb2.mono hB1.size); obtain ⟨hbz, hz⟩ := plan_box w2 #[.slice pE N cE, .slice pL N cL, .int .i64 S])
        | (refine wpList_store_row rfl 49 _ _ rfl _ #[.slice pE N cE, .slice pL N cL, .int .i64 S] rfl rfl _ _ (heap_alloc_new w2 _) (plan_info _ rfl) rfl (plan_one _ _ _ _ _ _ _) ?_; generalize World.setRow (w2.alloc (.cells #[.slice none 0 0, .slice none 0 0, .int .i64 0] 49)) w2.heap.size #[.slice pE N cE, .slice pL N cL, .int .i64 S] = wz at *)
        | go_in)
      have hBz : Hid (Below w.heap.size w wz) := hB2.trans (hbz.mono hB2.size)
      have p0 : wz.cell? ⟨w2.heap.size, 0, none⟩ = some (.slice pE N cE) := box_cell hz 0 rfl
      have p2 : wz.cell? ⟨w2.heap.size, 2, none⟩ = some (.int .i64 S) := box_cell hz 2 rfl
      have hEz : Hid (wz.ownsRow w1.heap.size 2 1 (.slice pE N cE) N (numf E N)) := row_below hE2 hbz
      have hgz : Hid (w2.heap.size < wz.heap.size) := (Array.getElem?_eq_some_iff.1 hz).1
      clear hE2 hbz hz hB1 hB2 hb2
      generalize w2.heap.size = gp at *
      generalize w1.heap.size = gw at *
      go_loopw [11, 43] (fun zv iv wr => ∃ (i : Nat) (Z : Int), iv = .int .i64 i ∧ zv = .int .i64 Z ∧ i ≤ N ∧ (∀ k, k < i → 0 ≤ nm t k ∧ nm t k ≤ 1099511627776 ∧ nm t k + nm d k ≤ Z) ∧ 0 ≤ Z ∧ Z ≤ 2000000000000 ∧ wr = wz)
        (fun _ iv _ => N - (intOf iv).toNat)
      case atStart => exact ⟨0, 0, rfl, rfl, Nat.zero_le _, fun k hk => absurd hk (by omega), Int.le_refl _, by omega, rfl⟩
      case round =>
        obtain ⟨i, Z, rfl, rfl, hiN, hall, hz0, hz1, rfl⟩ := hrel
        have hallH : Hid (∀ k, k < i → 0 ≤ nm t k ∧ nm t k ≤ 1099511627776 ∧ nm t k + nm d k ≤ Z) := hall
        clear hall
        by_cases hi : i < N
        · have hii : (i : Int) < (N : Int) := by omega
          have hi2 : Hid (i ≤ 100000) := by have := hnH.out; show _ ≤ _; omega
          obtain ⟨b, o, rfl, t0⟩ := (htb.out wr hBz.out).at (i := i) (by have := htNH.out; omega)
          obtain ⟨b2, o2, rfl, d0⟩ := (hdb.out wr hBz.out).at (i := i) (by have := hdNH.out; omega)
          have hDi := hDH.out i hi
          have hgt : ¬ (N : Int) ≤ (i : Int) := by omega
          have hi0 : ¬ (i : Int) < 0 := by omega
          have hBzO := hBz.out
          have hnx : Hid (0 ≤ nm t i → nm t i ≤ 1099511627776 → ∀ k, k < i + 1 → 0 ≤ nm t k ∧ nm t k ≤ 1099511627776 ∧ nm t k + nm d k ≤ max Z (nm t i + nm d i)) := fun h1 h2 k hk => by
            by_cases e : k = i
            · subst e; exact ⟨h1, h2, by omega⟩
            · have := hallH.out k (by omega); exact ⟨this.1, this.2.1, by omega⟩
          clear hallH
          generalize nm t i = x at *
          generalize nm d i = y at *
          by_cases h1 : x < 0
          · clear hnx hDi
            go_wp2
            go_ret
            exact ⟨rfl, hBzO⟩
          by_cases h2 : 1099511627776 < x
          · clear hnx hDi
            go_wp2
            go_ret
            exact ⟨rfl, hBzO⟩
          have hnx' := hnx.out (by omega) (by omega)
          have hxy : Hid (0 ≤ x + y ∧ x + y ≤ 2000000000000) := by constructor <;> omega
          have hws : Hid (wrap64 (x + y) = x + y) := by have := hxy.out; show _ = _; unfold wrap64; omega
          clear hnx hDi
          have hnxH : Hid (∀ k, k < i + 1 → 0 ≤ nm t k ∧ nm t k ≤ 1099511627776 ∧ nm t k + nm d k ≤ max Z (x + y)) := hnx'
          clear hnx'
          have hz0H : Hid (0 ≤ Z ∧ Z ≤ 2000000000000) := ⟨hz0, hz1⟩
          clear hz0 hz1
          go_wp2
          refine ⟨⟨i + 1, max Z (x + y), ?_, ?_, hi, hnxH.out, ?_, ?_, by first | rfl | trivial⟩, ?_⟩
          · first | exact int_succ i | exact int_wsucc hi2.out
          · first | rfl | rw [hws.out] | (rw [hws.out]; rfl) | (simp only [hws.out])
          · have := hz0H.out; omega
          · have := hz0H.out; have := hxy.out; omega
          · first | exact meas_1 hi | exact meas_w hi hi2.out
        · have hii : ¬ (i : Int) < (N : Int) := by omega
          have e : i = N := by omega
          subst e
          have hz0H : Hid (0 ≤ Z ∧ Z ≤ 2000000000000) := ⟨hz0, hz1⟩
          clear hz0 hz1
          have hEO := hEz
          go_wp2
          go_loopw [65] (fun jv wj => ∃ j : Nat, jv = .int .i64 j ∧ j ≤ l.length ∧ (∀ k, k < j → nm t (ed l k).f.toNat + nm d (ed l k).f.toNat ≤ nm t (ed l k).t.toNat) ∧ Below wr.heap.size wr wj)
            (fun jv _ => l.length - (intOf jv).toNat)
          case atStart => exact ⟨0, rfl, Nat.zero_le _, fun k hk => absurd hk (by omega), Below.refl _ _⟩
          case round =>
            rename World => wj
            obtain ⟨j, rfl, hjl, hed, hbj⟩ := hrel
            have hBj : Hid (Below w.heap.size w wj) := hBz.out.trans (hbj.mono hBz.out.size)
            have hedH : Hid (∀ k, k < j → nm t (ed l k).f.toNat + nm d (ed l k).f.toNat ≤ nm t (ed l k).t.toNat) := hed
            clear hed
            by_cases hj : j < l.length
            · have hok := hgH.out.ok _ (ed_mem hj)
              rcases hEb.out wj hBj.out with hh0 | ⟨eb, eo, rfl, hAr⟩
              · omega
              have z0 := hAr.cf j hj
              have z1 := hAr.ct j hj
              have hji : (j : Int) < (l.length : Int) := by omega
              have hj2 : Hid (j ≤ 100000) := by have := hlH.out; show _ ≤ _; omega
              obtain ⟨F, hF⟩ : ∃ F : Nat, (ed l j).f = (F : Int) := ⟨(ed l j).f.toNat, by omega⟩
              obtain ⟨T, hT⟩ : ∃ T : Nat, (ed l j).t = (T : Int) := ⟨(ed l j).t.toNat, by omega⟩
              have hFn : F < i := by omega
              have hTn : T < i := by omega
              rw [hF] at z0
              rw [hT] at z1
              have hnx : Hid (nm t F + nm d F ≤ nm t T → ∀ k, k < j + 1 → nm t (ed l k).f.toNat + nm d (ed l k).f.toNat ≤ nm t (ed l k).t.toNat) := fun h1 k hk => by
                by_cases e : k = j
                · subst e; rw [hF, hT, Int.toNat_natCast, Int.toNat_natCast]; exact h1
                · exact hedH.out k (by omega)
              have hblA : Below wr.heap.size wr (wj.alloc (.cells #[.int .i64 (F : Int), .int .i64 (T : Int)] 41)) := hbj.alloc hbj.size _
              have hBA : Below w.heap.size w (wj.alloc (.cells #[.int .i64 (F : Int), .int .i64 (T : Int)] 41)) := hBj.out.alloc hBj.out.size _
              have hn := heap_alloc_new wj (.cells #[.int .i64 (F : Int), .int .i64 (T : Int)] 41)
              obtain ⟨b, o, ept, tF⟩ := (htb.out _ hBA).at (i := F) (by have := htNH.out; omega)
              obtain ⟨b', o', ept', tT⟩ := (htb.out _ hBA).at (i := T) (by have := htNH.out; omega)
              subst ept
              obtain ⟨rfl, rfl⟩ : b = b' ∧ o = o' := by simpa using ept'
              obtain ⟨b2, o2, rfl, dF⟩ := (hdb.out _ hBA).at (i := F) (by have := hdNH.out; omega)
              have hxF := hallH.out F hFn
              have hdF := hDH.out F hFn
              have hws : Hid (wrap64 (nm t F + nm d F) = nm t F + nm d F) := by show _ = _; unfold wrap64; omega
              have hFi : (F : Int) < (i : Int) := by omega
              have hF0 : ¬ (F : Int) < 0 := by omega
              have hFg : ¬ (i : Int) ≤ (F : Int) := by omega
              have hTi : (T : Int) < (i : Int) := by omega
              have hT0 : ¬ (T : Int) < 0 := by omega
              have hTg : ¬ (i : Int) ≤ (T : Int) := by omega
              have hblAH : Hid (Below wr.heap.size wr (wj.alloc (.cells #[.int .i64 (F : Int), .int .i64 (T : Int)] 41))) := hblA
              have hBAH : Hid (Below w.heap.size w (wj.alloc (.cells #[.int .i64 (F : Int), .int .i64 (T : Int)] 41))) := hBA
              clear hAr hok hF hT hedH hallH hxF hdF hblA hBA hBj
              generalize nm t F = xF at *
              generalize nm t T = xT at *
              generalize nm d F = yF at *
              go_wp2
              have k0 : (wj.alloc (.cells #[.int .i64 (F : Int), .int .i64 (T : Int)] 41)).cell? ⟨wj.heap.size, 0, none⟩ = some (.int .i64 (F : Int)) := (cell_of_row _ _ 0 _ _ _ hn).trans rfl
              have k1 : (wj.alloc (.cells #[.int .i64 (F : Int), .int .i64 (T : Int)] 41)).cell? ⟨wj.heap.size, 1, none⟩ = some (.int .i64 (T : Int)) := (cell_of_row _ _ 1 _ _ _ hn).trans rfl
              clear z0 z1 hn
              generalize wj.alloc (.cells #[.int .i64 (F : Int), .int .i64 (T : Int)] 41) = wk at *
              generalize wj.heap.size = hc at *
              by_cases hlt : xT < xF + yF
              · have hdd : Hid (decide (xT < wrap64 (xF + yF)) = true) := by show _ = _; rw [hws.out]; exact decide_eq_true hlt
                go_quiet (fail)
                rw [hdd.out]
                go_wp2
                go_ret
                exact ⟨rfl, drewN_below hBAH.out nq⟩
              · have hdd : Hid (decide (xT < wrap64 (xF + yF)) = false) := by show _ = _; rw [hws.out]; exact decide_eq_false hlt
                have hnx' : Hid (∀ k, k < j + 1 → nm t (ed l k).f.toNat + nm d (ed l k).f.toNat ≤ nm t (ed l k).t.toNat) := hnx.out (by omega)
                clear hnx
                go_quiet (fail)
                rw [hdd.out]
                go_wp2
                refine ⟨⟨j + 1, ?_, hj, hnx'.out, drewN_below hblAH.out nq⟩, ?_⟩
                · first | exact int_succ j | exact int_wsucc hj2.out
                · first | exact meas_1 hj | exact meas_w hj hj2.out
            · have hji : ¬ (j : Int) < (l.length : Int) := by omega
              have e : j = l.length := by omega
              subst e
              have hle : Hid ((∀ k, k < i → E k ≤ nm t k) ∧ S ≤ Z) := hPH.out.least hgH.out hacH.out (T := nm t) (fun k hk => (hallH.out k hk).1) (fun a b hab => by
                obtain ⟨e, he, h1, h2⟩ := eB_true.1 hab
                obtain ⟨k, hk, ek⟩ := List.getElem_of_mem he
                have := hedH.out k hk
                rw [ed_get hk, ek, h1, h2, Int.toNat_natCast, Int.toNat_natCast] at this
                exact this) hz0H.out.1 (fun k hk => (hallH.out k hk).2.2)
              have hEj := row_below hEz.out hbj
              have pp0 := (hbj.cell (p := ⟨gp, 0, none⟩) hgz.out).trans p0
              have pp2 := (hbj.cell (p := ⟨gp, 2, none⟩) hgz.out).trans p2
              clear hedH hallH hPH hbj
              go_wp2
              go_loopw [89] (fun kv wk => ∃ k : Nat, kv = .int .i64 k ∧ k ≤ i ∧ Below wj.heap.size wj wk)
                (fun kv _ => i - (intOf kv).toNat)
              case atStart => exact ⟨0, rfl, Nat.zero_le _, Below.refl _ _⟩
              case round =>
                rename World => wk
                obtain ⟨k, rfl, hki, hbk⟩ := hrel
                have hBk : Hid (Below w.heap.size w wk) := hBj.out.trans (hbk.mono hBj.out.size)
                have hgj : gp < wj.heap.size := World.block_lt_of_cell? wj _ pp0
                have r0 := (hbk.cell (p := ⟨gp, 0, none⟩) hgj).trans pp0
                have r2 := (hbk.cell (p := ⟨gp, 2, none⟩) hgj).trans pp2
                by_cases hk : k < i
                · have hkii : (k : Int) < (i : Int) := by omega
                  have hk2 : Hid (k ≤ 100000) := by have := hnH.out; show _ ≤ _; omega
                  obtain ⟨ge, rfl, e0, _⟩ := row_num (row_below hEj hbk) hk
                  obtain ⟨b, o, rfl, t0⟩ := (htb.out wk hBk.out).at (i := k) (by have := htNH.out; omega)
                  have hlk := hle.out.1 k hk
                  have hk0 : ¬ (k : Int) < 0 := by omega
                  have hkg : ¬ (i : Int) ≤ (k : Int) := by omega
                  have hbkH : Hid (Below wj.heap.size wj wk) := hbk
                  clear hbk hBk
                  generalize nm t k = x at *
                  generalize E k = y at *
                  have hxy : ¬ x < y := by omega
                  go_wp2
                  go_quiet (fail)
                  go_wp2
                  refine ⟨⟨k + 1, ?_, hk, drewN_below hbkH.out nq⟩, ?_⟩
                  · first | exact int_succ k | exact int_wsucc hk2.out
                  · first | exact meas_1 hk | exact meas_w hk hk2.out
                · have hkii : ¬ (k : Int) < (i : Int) := by omega
                  have hSZ : S ≤ Z := hle.out.2
                  clear hEj
                  go_wp2
                  go_ret
                  exact ⟨by first | rfl | simp | (simp; omega), hBk.out⟩
    · have hNN : ((t.length : Int) != (N : Int)) = true := by simpa using htn
      clear htn
      go_enter Tryd.func7, Tryd.ntmps7
      go_wp2_with (first
        | (go_at_call 34; refine hpa.mono ?_; rintro e w1 ⟨rfl, hB1⟩; clear hpa)
        | (go_at_call 28; refine (hti.out w1 hB1).mono ?_; rintro e w2 ⟨⟨E, L, S, pE, cE, pL, cL, rfl, hP, hE2, hL2⟩, hb2⟩; clear hti hP hE2 hL2; have hB2 : Below w.heap.size w w2 := hB1.trans (hb2.mono hB1.size); obtain ⟨hbz, hz⟩ := plan_box w2 #[.slice pE N cE, .slice pL N cL, .int .i64 S])
        | (refine wpList_store_row rfl 49 _ _ rfl _ #[.slice pE N cE, .slice pL N cL, .int .i64 S] rfl rfl _ _ (heap_alloc_new w2 _) (plan_info _ rfl) rfl (plan_one _ _ _ _ _ _ _) ?_; generalize World.setRow (w2.alloc (.cells #[.slice none 0 0, .slice none 0 0, .int .i64 0] 49)) w2.heap.size #[.slice pE N cE, .slice pL N cL, .int .i64 S] = wz at *)
        | go_in)
      go_ret
      exact ⟨by first | rfl | simp, hB2.trans (hbz.mono hB2.size)⟩
  · have hti : Hid (∀ w1, Below w.heap.size w w1 → _) := fun w1 hb => times_bad (cap := cap) (cd := cd) (hEb.out w1 hb) (hZb.out w1 hb) (hdb.out w1 hb) h0
    have hc0 : (pe n l d == 0) = false := by simpa using h0
    have hc1 : (pe n l d != 0) = true := by simpa using h0
    generalize pe n l d = y at *
    clear h0 h hd ht hZ hZb hEb hdb htb
    go_enter Tryd.func7, Tryd.ntmps7
    go_wp2_with (first
      | (go_at_call 34; refine hpa.mono ?_; rintro e w1 ⟨rfl, hB1⟩; clear hpa)
      | (go_at_call 28; refine (hti.out w1 hB1).mono ?_; rintro e w2 ⟨rfl, hb2⟩; clear hti; have hB2 : Below w.heap.size w w2 := hB1.trans (hb2.mono hB1.size); obtain ⟨hbz, hz⟩ := plan_box w2 #[.slice none 0 0, .slice none 0 0, .int .i64 0])
      | (refine wpList_store_row rfl 49 _ _ rfl _ #[.slice none 0 0, .slice none 0 0, .int .i64 0] rfl rfl _ _ (heap_alloc_new w2 _) (plan_info _ rfl) rfl (plan_one _ _ _ _ _ _ _) ?_; generalize World.setRow (w2.alloc (.cells #[.slice none 0 0, .slice none 0 0, .int .i64 0] 49)) w2.heap.size #[.slice none 0 0, .slice none 0 0, .int .i64 0] = wz at *; have p2 : wz.cell? ⟨w2.heap.size, 2, none⟩ = some (.int .i64 0) := box_cell hz 2 rfl)
      | go_in)
    go_ret
    exact ⟨by first | rfl | simp, hB2.trans (hbz.mono hB2.size)⟩
end Go.Proofs.YtncjnmlgkhngaaaDoor
