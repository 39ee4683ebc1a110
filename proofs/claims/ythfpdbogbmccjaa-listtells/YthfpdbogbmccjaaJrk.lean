/- The reference of package list: Worked. -/
import Derived.Test.YthfpdbogbmccjaaJrw
namespace Go.Proofs.Ythfpdbogbmccjaa
open Go.RowKit
set_option linter.unusedSectionVars false
set_option linter.unusedVariables false

set_option maxHeartbeats 2000000 in
set_option maxRecDepth 100000 in
theorem Worked_any {w : World} {ql qr : Option Addr} {l : List Int} {R : List Nat} {cl cr m : Nat} (hl : Nums w ql l) (hR : Nums w qr (R.map fun (i : Nat) => (i : Int))) (hn : l.length ≤ 60) (hr : R.length ≤ 1000) (hm : 1 ≤ m ∧ m ≤ 20) (hx : ∀ x ∈ l, 0 ≤ x ∧ x ≤ 1000000000) (hi : ∀ i ∈ R, i < l.length) :
    Calls Try.prog 12 #[.int .i64 (m : Int), .slice ql l.length cl, .slice qr R.length cr] w fun e w' => (∃ g, e = .returned (.tuple #[.slice (some ⟨g, 0, none⟩) l.length l.length, .int .i64 (mst (lsA l m R).W m)]) ∧ w'.ownsRow w.heap.size 3 1 (.slice (some ⟨g, 0, none⟩) l.length l.length) l.length (numf (lsA l m R).on l.length)) ∧ Below w.heap.size w w' := by
  have hnH : Hid (l.length ≤ 60) := hn
  have hrH : Hid (R.length ≤ 1000) := hr
  have hmH : Hid (1 ≤ m ∧ m ≤ 20) := hm
  have hxH : Hid (∀ x ∈ l, 0 ≤ x ∧ x ≤ 1000000000) := hx
  have hiH : Hid (∀ i ∈ R, i < l.length) := hi
  have hlH : Hid (Nums w ql l) := hl
  have hRH : Hid (Nums w qr (R.map fun (i : Nat) => (i : Int))) := hR
  clear hn hr hm hx hi hl hR
  obtain ⟨n, hnn⟩ : ∃ n, n = l.length := ⟨_, rfl⟩
  rw [← hnn] at hnH hiH ⊢
  have hnnH : Hid (n = l.length) := hnn
  clear hnn
  obtain ⟨gb, hgb⟩ : ∃ gb, gb = w.heap.size := ⟨_, rfl⟩
  have hgbH : Hid (gb = w.heap.size) := hgb
  rw [← hgb]
  go_enter Try.func12, Try.ntmps12
  go_wp2_with (first
    | (at_make; obtain ⟨i0, hi, hz0, hz1, hz2⟩ := info_parts info_int; refine wpList_make_full _ rfl _ _ 23 rfl gb 3 i0 (.int .i64 0) 1 Try.underlying23 hi hz0 hz1 _ _ _ _ n rfl rfl rfl rfl (by rw [hz2]; have := hnH.out; omega) (by unfold maxLen; have := hnH.out; omega) (by rw [hgb]; exact Nat.le_refl _) ?_; intro w1 hown1 hgrow1; clear hi hz0 hz1 hz2)
    | (at_make; obtain ⟨i0, hi, hz0, hz1, hz2⟩ := info_parts info_i64; refine wpList_make_full _ rfl _ _ 22 rfl w1.heap.size 2 i0 (.int .i64 0) 1 Try.underlying22 hi hz0 hz1 _ _ _ _ m rfl rfl rfl rfl (by rw [hz2]; have := hmH.out; omega) (by unfold maxLen; have := hmH.out; omega) (Nat.le_refl _) ?_; intro w2 hown2 hgrow2; clear hi hz0 hz1 hz2)
    | go_in)
  rw [← hgb] at hown1 ⊢
  have hat1 : w1.ownsRow gb 3 1 (.slice (some ⟨gb, 0, none⟩) n n) n (numf (fun _ => 0) n) := by
    have e : (madeCells (Value.int .i64 0).cells (n * 1)).toList = numf (fun _ => 0) n := by
      rw [numf_zero, Nat.mul_one]
      exact toList_madeCells_one _ _
    rw [← e]; exact hown1
  have hB1 : Below gb w w1 := ⟨hgrow1.os, hgrow1.tape, hgrow1.output, hgrow1.size, fun k hk => hgrow1.block k (by omega) (by simp)⟩
  have hg1 : gb < w1.heap.size := (hat1.lt _ rfl).2
  obtain ⟨gw, hgw⟩ : ∃ gw, gw = w1.heap.size := ⟨_, rfl⟩
  rw [← hgw] at hown2 hg1 ⊢
  have hat2 : w2.ownsRow gw 2 1 (.slice (some ⟨gw, 0, none⟩) m m) m (numf (fun _ => 0) m) := by
    have e : (madeCells (Value.int .i64 0).cells (m * 1)).toList = numf (fun _ => 0) m := by
      rw [numf_zero, Nat.mul_one]
      exact toList_madeCells_one _ _
    rw [← e]; exact hown2
  have hB2 : Below gw w1 w2 := ⟨hgrow2.os, hgrow2.tape, hgrow2.output, hgrow2.size, fun k hk => hgrow2.block k (by omega) (by simp)⟩
  have hat12 : w2.ownsRow gb 3 1 (.slice (some ⟨gb, 0, none⟩) n n) n (numf (fun _ => 0) n) := hat1.kept hgrow2 (Or.inr fun e => by cases e)
  have hB12 : Below gb w w2 := hB1.trans (hB2.mono (Nat.le_of_lt hg1))
  have hgH : Hid (gb < gw) := hg1
  clear hown1 hgrow1 hown2 hgrow2 hat1 hB1 hB2 hgw hg1 hgb
  have hat2H : Hid _ := hat2
  have hat12H : Hid _ := hat12
  have hB12H : Hid (Below gb w w2) := hB12
  clear hat2 hat12 hB12
  go_loopg [21] R.length (fun gz kv wr => ∃ (k : Nat), kv = .int .i64 k ∧ R.length - k ≤ gz ∧ Hid (k ≤ R.length) ∧ Hid (wr.ownsRow gw 2 1 (.slice (some ⟨gw, 0, none⟩) m m) m (numf (lsA l m (R.take k)).W m)) ∧ Hid (wr.ownsRow gb 3 1 (.slice (some ⟨gb, 0, none⟩) n n) n (numf (lsA l m (R.take k)).on n)) ∧ Hid (Below gb w wr))
  case atStart => exact ⟨0, rfl, by omega, Nat.zero_le _, hat2H, hat12H, hB12H⟩
  case round =>
    clear hat2H hat12H hB12H
    obtain ⟨k, rfl, hgz, hkR, hrowH, hinH, hblH⟩ := hrel
    by_cases hk : k < R.length
    · have hkz : (k : Int) < (R.length : Int) := by omega
      have hkH : Hid (k < R.length) := hk
      have hk2 : Hid (k ≤ 100000) := by have := hrH.out; show _ ≤ _; omega
      obtain ⟨i, hi⟩ : ∃ i, i = R[k] := ⟨_, rfl⟩
      have hin2 : Hid (i < n) := hiH.out i (by rw [hi]; exact List.getElem_mem hk)
      have htk : Hid (lsA l m (R.take (k + 1)) = lst l m (lsA l m (R.take k)) i) := by show _ = _; rw [List.take_succ_eq_append_getElem hk, lsA_snoc]; exact congrArg (lst l m _) hi.symm
      have hok : Hid (∀ b, 0 ≤ (lsA l m (R.take k)).W b ∧ (lsA l m (R.take k)).W b ≤ 1000000000000) := lsA_b60 hxH.out (fun j hj => by rw [← hnnH.out]; exact hiH.out j (List.mem_of_mem_take hj)) (by rw [List.length_take]; have := hrH.out; omega)
      generalize lsA l m (R.take k) = s at *
      rcases hRH.out.below hblH.out (Nat.le_of_eq hgbH.out.symm) with h0 | ⟨b, o, rfl, hA⟩
      · rw [List.length_map] at h0; omega
      have z0 := hA.c k (by rw [List.length_map]; exact hk)
      have ez : nm (R.map fun (i : Nat) => (i : Int)) k = (i : Int) := by rw [nm_get (by rw [List.length_map]; exact hk), List.getElem_map]; exact congrArg (fun (z : Nat) => (z : Int)) hi.symm
      rw [ez] at z0
      have hmz : Hid (1 ≤ m ∧ m ≤ 20) := hmH.out
      clear ez hA hi hk
      go_wp2
      clear z0
      go_loopg [12, 26] m (fun gz2 bv iv wq => ∃ (j nq : Nat), iv = .int .i64 j ∧ bv = .int .i64 (lm s.W j : Int) ∧ m - j ≤ gz2 ∧ Hid (j ≤ m) ∧ Hid (wq = wr.drewN nq))
      case atStart => exact ⟨0, 0, rfl, rfl, by omega, Nat.zero_le _, rfl⟩
      case round =>
        rename World => wq
        obtain ⟨j, nq0, rfl, rfl, hgz2, hj, hwq⟩ := hrel
        by_cases hjm : j < m
        · have hjz : (j : Int) < (m : Int) := by omega
          have jz2 : ¬ (j : Int) < 0 := by omega
          have hjH : Hid (j < m) := hjm
          have hj5 : Hid (j ≤ 100000) := by have := hmz.out; show _ ≤ _; omega
          have hlm : lm s.W j < m := by
            by_cases e : j = 0
            · subst e; show 0 < m; omega
            · have := lm_lt s.W (m := j) (by omega); omega
          have bz : (lm s.W j : Int) < (m : Int) := by omega
          have bz2 : ¬ (lm s.W j : Int) < 0 := by omega
          have y1 : wq.cell? ⟨gw, j, none⟩ = some (.int .i64 (s.W j)) := by rw [hwq.out]; show wr.cell? ⟨gw, j, none⟩ = _; rw [hrowH.out.cellAt j (by omega), numf_get hjm]
          have y2 : wq.cell? ⟨gw, lm s.W j, none⟩ = some (.int .i64 (s.W (lm s.W j))) := by rw [hwq.out]; show wr.cell? ⟨gw, lm s.W j, none⟩ = _; rw [hrowH.out.cellAt (lm s.W j) (by omega), numf_get hlm]
          have hst : Hid (lm s.W (j + 1) = if s.W j < s.W (lm s.W j) then j else lm s.W j) := rfl
          have hwq2 : Hid (∀ x, wq.drewN x = wr.drewN (nq0 + x)) := fun x => by rw [hwq.out, World.drewN_drewN]
          generalize s.W j = x at *
          generalize s.W (lm s.W j) = y at *
          generalize lm s.W j = bj at *
          clear hjm hlm
          by_cases hxy : x < y
          · have hn1 : Hid (lm s.W (j + 1) = j) := by show _ = _; rw [hst.out, if_pos hxy]
            have hxd : decide (x < y) = true := decide_eq_true hxy
            go_wp2
            go_quiet (fail)
            go_wp2
            go_roundg (m - (j + 1))
            case measure => have := hjH.out; omega
            case rel => exact ⟨j + 1, nq0 + nq, by first | exact int_wsucc hj5.out | exact int_succ j, by rw [hn1.out], Nat.le_refl _, hjH.out, hwq2.out _⟩
          · have hn1 : Hid (lm s.W (j + 1) = bj) := by show _ = _; rw [hst.out, if_neg hxy]
            have hxd : decide (x < y) = false := decide_eq_false hxy
            go_wp2
            go_quiet (fail)
            go_wp2
            go_roundg (m - (j + 1))
            case measure => have := hjH.out; omega
            case rel => exact ⟨j + 1, nq0 + nq, by first | exact int_wsucc hj5.out | exact int_succ j, by rw [hn1.out], Nat.le_refl _, hjH.out, hwq2.out _⟩
        · have hjz : ¬ (j : Int) < (m : Int) := by omega
          have e : j = m := by have := hj.out; omega
          subst e
          have hrowq : Hid (wq.ownsRow gw 2 1 (.slice (some ⟨gw, 0, none⟩) j j) j (numf s.W j)) := by show wq.ownsRow gw 2 1 _ _ _; rw [hwq.out]; exact hrowH.out
          have hinq : Hid (wq.ownsRow gb 3 1 (.slice (some ⟨gb, 0, none⟩) n n) n (numf s.on n)) := by show wq.ownsRow gb 3 1 _ _ _; rw [hwq.out]; exact hinH.out
          have hblq : Hid (Below gb w wq) := by show Below gb w wq; rw [hwq.out]; exact hblH.out.trans ⟨rfl, rfl, rfl, Nat.le_refl _, fun _ _ => rfl⟩
          obtain ⟨b1, o1, rfl, hA1⟩ := (hlH.out.below hblq.out (Nat.le_of_eq hgbH.out.symm)).resolve_left (by have := hin2.out; have := hnnH.out; omega)
          have z1 := hA1.c i (by rw [← hnnH.out]; exact hin2.out)
          have hb1lt : Hid (b1 < gb) := by
            rcases hlH.out with h0 | ⟨b2, o2, e2, hA2⟩
            · exfalso; have := hin2.out; have := hnnH.out; omega
            · cases e2
              show b1 < gb
              rw [hgbH.out]
              exact hA2.lt
          have hxiH : Hid (0 ≤ nm l i ∧ nm l i ≤ 1000000000) := hxH.out _ (nm_mem (show i < l.length by rw [← hnnH.out]; exact hin2.out))
          have y0 : wq.cell? ⟨gb, i, none⟩ = some (.int .i64 (s.on i)) := by rw [hinq.out.cellAt i (by have := hin2.out; omega), numf_get hin2.out]
          have f0 := owns_frz hinq.out i
          have z1H : Hid (wq.cell? ⟨b1, o1 + i, none⟩ = some (.int .i64 (nm l i))) := z1
          obtain ⟨bx, hbx⟩ : ∃ bx, bx = lm s.W j := ⟨_, rfl⟩
          have hlm : Hid (bx < j) := by show _ < _; rw [hbx]; exact lm_lt s.W hmz.out.1
          have hst : Hid (lst l j s i = ⟨fp s.W bx (s.W bx + nm l i), fp s.on i (bx : Int)⟩) := by show _ = _; rw [hbx]; rfl
          rw [← hbx]
          have hiz : (i : Int) < (n : Int) := by have := hin2.out; omega
          have iz2 : ¬ (i : Int) < 0 := by omega
          clear hA1 z1 hrowH hinH hblH hwq hbx hgz2
          go_wp2_with fail
          have hrow7 : Hid ((wq.setCell ⟨gb, i, none⟩ (.int .i64 (bx : Int))).ownsRow gw 2 1 (.slice (some ⟨gw, 0, none⟩) j j) j (numf s.W j)) := owns_set_other hrowq.out _ _ (fun g e => by cases e; have := hgH.out; show gw ≠ gb; omega)
          have hin7 : Hid ((wq.setCell ⟨gb, i, none⟩ (.int .i64 (bx : Int))).ownsRow gb 3 1 (.slice (some ⟨gb, 0, none⟩) n n) n (numf (fp s.on i (bx : Int)) n)) := by
            have h2 := owns_store hinq.out (j := i) (.int .i64 (bx : Int))
            rw [numf_set] at h2
            exact h2
          have hbl7 : Hid (Below gb w (wq.setCell ⟨gb, i, none⟩ (.int .i64 (bx : Int)))) := hblq.out.setCell (Nat.le_refl gb) _
          have z7 : (wq.setCell ⟨gb, i, none⟩ (.int .i64 (bx : Int))).cell? ⟨b1, o1 + i, none⟩ = some (.int .i64 (nm l i)) := (World.cell?_setCell_other _ _ _ _ (by intro e; simp only [Addr.mk.injEq] at e; have := hb1lt.out; omega)).trans z1H.out
          clear y0 f0 z1H hrowq hinq hblq
          generalize wq.setCell ⟨gb, i, none⟩ (.int .i64 (bx : Int)) = w7 at *
          have x7 : w7.cell? ⟨gw, bx, none⟩ = some (.int .i64 (s.W bx)) := by rw [hrow7.out.cellAt bx (by have := hlm.out; omega), numf_get hlm.out]
          have f7 := owns_frz hrow7.out bx
          have bz : (bx : Int) < (j : Int) := by have := hlm.out; omega
          have bz2 : ¬ (bx : Int) < 0 := by omega
          have hwx : IntKind.i64.wrap (s.W bx + nm l i) = s.W bx + nm l i := by rw [IntKind.wrap_i64]; have h1 := hok.out bx; have h2 := hxiH.out; omega
          have mixed := stMixedK
          go_big_region_o
          have hrow8 : Hid (((w7.setCell ⟨gw, bx, none⟩ (.int .i64 (s.W bx + nm l i))).drew).ownsRow gw 2 1 (.slice (some ⟨gw, 0, none⟩) j j) j (numf (fp s.W bx (s.W bx + nm l i)) j)) := by
            have h2 := owns_store hrow7.out (j := bx) (.int .i64 (s.W bx + nm l i))
            rw [numf_set] at h2
            exact h2
          have hin8 : Hid (((w7.setCell ⟨gw, bx, none⟩ (.int .i64 (s.W bx + nm l i))).drew).ownsRow gb 3 1 (.slice (some ⟨gb, 0, none⟩) n n) n (numf (fp s.on i (bx : Int)) n)) := owns_set_other hin7.out _ _ (fun g e => by cases e; have := hgH.out; show gb ≠ gw; omega)
          have hbl8 : Hid (Below gb w ((w7.setCell ⟨gw, bx, none⟩ (.int .i64 (s.W bx + nm l i))).drew)) := (hbl7.out.setCell (Nat.le_of_lt hgH.out) _).drew
          clear x7 f7 z7 bz bz2 hwx
          generalize (w7.setCell ⟨gw, bx, none⟩ (.int .i64 (s.W bx + nm l i))).drew = w8 at *
          go_wp2
          go_roundg (R.length - (k + 1))
          case measure => have := hkH.out; omega
          case rel => exact ⟨k + 1, by first | exact int_wsucc hk2.out | exact int_succ k, Nat.le_refl _, hkH.out, by rw [htk.out, hst.out]; exact hrow8, by rw [htk.out, hst.out]; exact hin8, hbl8⟩
    · have hkz : ¬ (k : Int) < (R.length : Int) := by omega
      have e : k = R.length := by have := hkR.out; omega
      subst e
      rw [List.take_length] at hrowH hinH
      have hbd : ∀ b, 0 ≤ (lsA l m R).W b ∧ (lsA l m R).W b ≤ 1000000000000 := lsA_b60 hxH.out (fun j hj => by rw [← hnnH.out]; exact hiH.out j hj) hrH.out
      have hmo := most_any (c := m) (nums_row hrowH.out) (by rw [List.length_map, List.length_range]; have := hmH.out; omega)
      rw [List.length_map, List.length_range, mst_congr (W' := (lsA l m R).W) fun b hb => nm_map hb] at hmo
      clear hrowH hbd hgz
      go_wp2_with (first
        | (go_at_call 30; refine hmo.mono ?_; rintro e w' ⟨rfl, hw'⟩; have hw'' := hw'.symm; subst hw''; clear hmo)
        | fail)
      go_ret2
      exact ⟨⟨gb, rfl, hinH.out⟩, hblH.out⟩
end Go.Proofs.Ythfpdbogbmccjaa
