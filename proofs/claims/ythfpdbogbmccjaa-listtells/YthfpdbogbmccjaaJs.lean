/- Package list: Span. -/
import Derived.Test.YthfpdbogbmccjaaJr
namespace Go.Proofs.Ythfpdbogbmccjaa
open Go.RowKit
set_option linter.unusedSectionVars false
set_option linter.unusedVariables false

def hdB (m : Nat) (x : Int) : Bool := decide (0 ≤ x ∧ x < (m : Int))
/-- What Span tells. -/
def spR (m : Nat) (l B : List Int) : Int × Int := if B.length = l.length ∧ B.all (hdB m) = true then (xm (spF l (nm B) l.length) m, 0) else (0, 1)
theorem spF_bnd {l : List Int} (hl : ∀ x ∈ l, 0 ≤ x ∧ x ≤ 1000000000) (on : Nat → Int) : ∀ k, k ≤ l.length → ∀ b, 0 ≤ spF l on k b ∧ spF l on k b ≤ (k : Int) * 1000000000 := by
  intro k
  induction k with
  | zero => intro _ b; show (0 : Int) ≤ 0 ∧ (0 : Int) ≤ _; omega
  | succ k ih =>
    intro hk b
    have hx := hl _ (nm_mem (show k < l.length by omega))
    have h1 := ih (by omega) b
    have h2 := ih (by omega) (on k).toNat
    rw [spF]
    by_cases e : b = (on k).toNat
    · rw [e, fp_same]; omega
    · rw [fp_ne e]; omega

set_option maxHeartbeats 1000000 in
set_option maxRecDepth 100000 in
theorem Span_bad {w : World} {q qb : Option Addr} {l B : List Int} {c cb : Nat} (m : Int) (h : Nums w q l) (hk : kl m l ≠ 0) :
    Calls Try.prog 10 #[.int .i64 m, .slice q l.length c, .slice qb B.length cb] w fun e w' => e = .returned (.tuple #[.int .i64 0, .int .i64 (kl m l)]) ∧ w' = w := by
  have hc := check_any (c := c) m h
  have hkb : (kl m l != 0) = true := by simpa using hk
  clear h hk
  go_enter Try.func10, Try.ntmps10
  go_wp2_with (first
    | (go_at_call 22; refine hc.mono ?_; rintro e w2 ⟨rfl, hw'⟩; have hw'' := hw'.symm; subst hw''; clear hc)
    | go_in)
  go_ret2
  exact ⟨rfl, rfl⟩

set_option maxHeartbeats 2000000 in
set_option maxRecDepth 100000 in
theorem Span_ok {w : World} {q qb : Option Addr} {l B : List Int} {c cb m : Nat} (h : Nums w q l) (hB : Nums w qb B) (hk : kl (m : Int) l = 0) :
    Calls Try.prog 10 #[.int .i64 (m : Int), .slice q l.length c, .slice qb B.length cb] w fun e w' => e = .returned (.tuple #[.int .i64 (spR m l B).1, .int .i64 (spR m l B).2]) ∧ Below w.heap.size w w' := by
  have hc := check_any (c := c) (m : Int) h
  obtain ⟨k1, k2, k3⟩ := kl_ok hk
  rw [hk] at hc
  by_cases hn : B.length = l.length
  · have hxH : Hid (∀ x ∈ l, 0 ≤ x ∧ x ≤ 1000000000) := k3
    have hnH : Hid (l.length ≤ 60) := k2
    have hmH : Hid (1 ≤ m ∧ m ≤ 20) := ⟨by omega, by omega⟩
    have hlH : Hid (Nums w q l) := h
    have hBH : Hid (Nums w qb B) := hB
    have hyes : Hid (B.all (hdB m) = true → spR m l B = (xm (spF l (nm B) l.length) m, 0)) := fun x => by unfold spR; rw [if_pos ⟨hn, x⟩]
    have hno : Hid (∀ k, k < B.length → hdB m (nm B k) = false → spR m l B = (0, 1)) := fun k hk x => by
      unfold spR
      rw [if_neg]
      rintro ⟨_, h2⟩
      have := List.all_eq_true.1 h2 _ (nm_mem hk)
      rw [x] at this
      cases this
    have hnz : ((B.length : Int) != (l.length : Int)) = false := by rw [hn]; simp
    obtain ⟨n, hnn⟩ : ∃ n, n = l.length := ⟨_, rfl⟩
    rw [← hnn] at hnH hn hnz hc hyes ⊢
    have hnnH : Hid (n = l.length) := hnn
    have hBn : Hid (B.length = n) := hn
    rw [hn] at hno hnz ⊢
    have hgsH : Hid (∀ b o, q = some ⟨b, o, none⟩ → n ≠ 0 → b < w.heap.size) := fun b o e h0 => by
      rcases hlH.out with h1 | ⟨b2, o2, e2, hA2⟩
      · rw [hnnH.out] at h0; omega
      · rw [e] at e2; cases e2; exact hA2.lt
    clear h hB hk k1 k2 k3 hn hnn
    go_enter Try.func10, Try.ntmps10
    go_wp2_with (first
      | (go_at_call 22; refine hc.mono ?_; rintro e w2 ⟨rfl, hw'⟩; have hw'' := hw'.symm; subst hw''; clear hc)
      | (at_make; obtain ⟨i0, hi, hz0, hz1, hz2⟩ := info_parts info_i64; refine wpList_make_full _ rfl _ _ 22 rfl w.heap.size 2 i0 (.int .i64 0) 1 Try.underlying22 hi hz0 hz1 _ _ _ _ m rfl rfl rfl rfl (by rw [hz2]; have := hmH.out; omega) (by unfold maxLen; have := hmH.out; omega) (Nat.le_refl _) ?_; intro w2 hown2 hgrow2; clear hi hz0 hz1 hz2)
      | fail)
    have hat2 : w2.ownsRow w.heap.size 2 1 (.slice (some ⟨w.heap.size, 0, none⟩) m m) m (numf (fun _ => 0) m) := by
      have e : (madeCells (Value.int .i64 0).cells (m * 1)).toList = numf (fun _ => 0) m := by
        rw [numf_zero, Nat.mul_one]
        exact toList_madeCells_one _ _
      rw [← e]; exact hown2
    have hB2 : Below w.heap.size w w2 := ⟨hgrow2.os, hgrow2.tape, hgrow2.output, hgrow2.size, fun k hk => hgrow2.block k (by omega) (by simp)⟩
    clear hown2 hgrow2
    obtain ⟨gw, hgw⟩ : ∃ gw, gw = w.heap.size := ⟨_, rfl⟩
    have hgwH : Hid (gw = w.heap.size) := hgw
    rw [← hgw] at hat2 hB2 hgsH ⊢
    clear hgw
    go_loopw [27] (fun kv wr => ∃ (k : Nat), kv = .int .i64 k ∧ k ≤ n ∧ Hid (∀ j, j < k → hdB m (nm B j) = true) ∧ wr.ownsRow gw 2 1 (.slice (some ⟨gw, 0, none⟩) m m) m (numf (spF l (nm B) k) m) ∧ Below gw w wr)
      (fun kv _ => n - (intOf kv).toNat)
    case atStart => exact ⟨0, rfl, Nat.zero_le _, fun j hj => by omega, hat2, hB2⟩
    case round =>
      clear hat2 hB2
      obtain ⟨k, rfl, hkn, hall, hrow, hbl⟩ := hrel
      by_cases hk : k < n
      · have hkz : (k : Int) < (n : Int) := by omega
        have kz2 : ¬ (k : Int) < 0 := by omega
        have hkH : Hid (k < n) := hk
        have hk2 : Hid (k ≤ 100000) := by have := hnH.out; show _ ≤ _; omega
        rcases hlH.out.below hbl (Nat.le_of_eq hgwH.out.symm) with h0 | ⟨b1, o1, rfl, hA1⟩
        · have := hnnH.out; omega
        rcases hBH.out.below hbl (Nat.le_of_eq hgwH.out.symm) with h0 | ⟨b2, o2, rfl, hA2⟩
        · have := hBn.out; omega
        have z1 := hA1.c k (by rw [← hnnH.out]; exact hk)
        have z2 := hA2.c k (by rw [hBn.out]; exact hk)
        have hblH : Hid (Below gw w wr) := hbl
        have hst : Hid (spF l (nm B) (k + 1) = fp (spF l (nm B) k) (nm B k).toNat (spF l (nm B) k (nm B k).toNat + nm l k)) := rfl
        have hbn := spF_bnd hxH.out (nm B) k (by rw [← hnnH.out]; exact hkn) (nm B k).toNat
        have hx := hxH.out _ (nm_mem (show k < l.length by rw [← hnnH.out]; exact hk))
        have hbnH : Hid (0 ≤ spF l (nm B) k (nm B k).toNat ∧ spF l (nm B) k (nm B k).toNat ≤ 60000000000 ∧ 0 ≤ nm l k ∧ nm l k ≤ 1000000000) := by have := hnH.out; show _ ∧ _; omega
        have hnoH : Hid (hdB m (nm B k) = false → spR m l B = (0, 1)) := hno.out k hk
        have hallS : Hid (hdB m (nm B k) = true → ∀ j, j < k + 1 → hdB m (nm B j) = true) := fun h2 j hj => by
          by_cases e : j = k
          · rw [e]; exact h2
          · exact hall.out j (by omega)
        generalize hy : nm B k = y at *
        generalize nm l k = x at *
        clear hA1 hA2 hbl hbn hx hk hkn hall hy
        by_cases hy0 : y < 0
        · have hy0d : decide (y < 0) = true := decide_eq_true hy0
          have hres : Hid (spR m l B = (0, 1)) := hnoH.out (by unfold hdB; exact decide_eq_false (by omega))
          clear hrow hst hbnH hnoH hallS
          go_wp2
          go_ret2
          rw [hres.out]
          exact ⟨rfl, by first | exact hblH.out | (rw [← hgwH.out]; exact hblH.out)⟩
        · have hy0d : decide (y < 0) = false := decide_eq_false hy0
          by_cases hym : (m : Int) ≤ y
          · have hres : Hid (spR m l B = (0, 1)) := hnoH.out (by unfold hdB; exact decide_eq_false (by omega))
            clear hrow hst hbnH hnoH hallS
            go_wp2
            go_ret2
            rw [hres.out]
            exact ⟨rfl, by first | exact hblH.out | (rw [← hgwH.out]; exact hblH.out)⟩
          · have hallH : Hid _ := hallS.out (by unfold hdB; exact decide_eq_true (by omega))
            obtain ⟨h, rfl⟩ : ∃ h : Nat, y = (h : Int) := ⟨y.toNat, by omega⟩
            rw [Int.toNat_natCast] at hst hbnH
            have hhm : Hid (h < m) := by show _ < _; omega
            have hz : (h : Int) < (m : Int) := by omega
            have x7 : wr.cell? ⟨gw, h, none⟩ = some (.int .i64 (spF l (nm B) k h)) := by rw [hrow.cellAt h (by have := hhm.out; omega), numf_get hhm.out]
            have f7 := owns_frz hrow h
            have hwx : IntKind.i64.wrap (spF l (nm B) k h + x) = spF l (nm B) k h + x := by rw [IntKind.wrap_i64]; have h2 := hbnH.out; omega
            have hrowH : Hid (wr.ownsRow gw 2 1 (.slice (some ⟨gw, 0, none⟩) m m) m (numf (spF l (nm B) k) m)) := hrow
            have mixed := stMixedK
            clear hrow hallS hnoH
            generalize spF l (nm B) k = E at *
            go_wp2_with fail
            go_big_region_o
            have hrow8 : Hid (((wr.setCell ⟨gw, h, none⟩ (.int .i64 (E h + x))).drew).ownsRow gw 2 1 (.slice (some ⟨gw, 0, none⟩) m m) m (numf (fp E h (E h + x)) m)) := by
              have h2 := owns_store hrowH.out (j := h) (.int .i64 (E h + x))
              rw [numf_set] at h2
              exact h2
            have hbl8 : Hid (Below gw w ((wr.setCell ⟨gw, h, none⟩ (.int .i64 (E h + x))).drew)) := (hblH.out.setCell (Nat.le_refl gw) _).drew
            clear x7 f7 z1 z2 hwx
            generalize (wr.setCell ⟨gw, h, none⟩ (.int .i64 (E h + x))).drew = w8 at *
            go_wp2
            refine ⟨⟨k + 1, ?_, hkH.out, hallH, ?_, hbl8.out⟩, ?_⟩
            · first | exact int_succ k | exact int_wsucc hk2.out
            · rw [hst.out]; exact hrow8.out
            · first | exact meas_1 hkH.out | exact meas_w hkH.out hk2.out
      · have hkz : ¬ (k : Int) < (n : Int) := by omega
        have e : k = n := by omega
        subst e
        have hres : Hid (spR m l B = (xm (spF l (nm B) k) m, 0)) := hyes.out (List.all_eq_true.2 fun x hx => by
          obtain ⟨j, hj, rfl⟩ := List.getElem_of_mem hx
          rw [← nm_get hj]
          exact hall.out j (by rw [← hBn.out]; exact hj))
        have hmx := Max_any (c := m) hrow hmH.out.1 (by have := hmH.out; omega)
        have hblH : Hid (Below gw w wr) := hbl
        clear hbl hrow hall hyes hno
        generalize xm (spF l (nm B) k) m = S at *
        go_wp2_with (first
          | (go_at_call 18; refine hmx.mono ?_; rintro e w' ⟨rfl, hw'⟩; have hw'' := hw'.symm; subst hw''; clear hmx)
          | fail)
        go_ret2
        rw [hres.out]
        exact ⟨rfl, by first | exact hblH.out | (rw [← hgwH.out]; exact hblH.out)⟩
  · have hres : Hid (spR m l B = (0, 1)) := by unfold spR; show _ = _; rw [if_neg (fun x => hn x.1)]
    have hnz : ((B.length : Int) != (l.length : Int)) = true := by simp; omega
    clear h hB hk k1 k2 k3 hn
    go_enter Try.func10, Try.ntmps10
    go_wp2_with (first
      | (go_at_call 22; refine hc.mono ?_; rintro e w2 ⟨rfl, hw'⟩; have hw'' := hw'.symm; subst hw''; clear hc)
      | fail)
    go_ret2
    rw [hres.out]
    exact ⟨rfl, Below.refl _ _⟩
end Go.Proofs.Ythfpdbogbmccjaa
