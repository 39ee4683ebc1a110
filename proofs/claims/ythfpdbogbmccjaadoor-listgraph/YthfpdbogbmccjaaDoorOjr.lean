/- Package list: inOrder, share, Run. -/
import Derived.Test.YthfpdbogbmccjaaDoorOjx
import Derived.Shelf.RegionOpenPlain
namespace Go.Proofs.YthfpdbogbmccjaaDoor
open Go.RowKit Gm Pm
set_option linter.unusedSectionVars false
set_option linter.unusedVariables false
set_option maxHeartbeats 1000000 in
set_option maxRecDepth 100000 in
theorem inOrder_any {w : World} {n c : Nat} (q : Option Addr) (hn : n ≤ 1000) :
    Calls Tryd.prog 31 #[.slice q n c] w fun e w' => e = .returned (.slice (some ⟨w.heap.size, 0, none⟩) n n) ∧ w'.ownsRow w.heap.size 3 1 (.slice (some ⟨w.heap.size, 0, none⟩) n n) n (numf (fun j => (j : Int)) n) ∧ Below w.heap.size w w' := by
  have hnH : Hid (n ≤ 1000) := hn
  clear hn
  go_enter Tryd.func31, Tryd.ntmps31
  go_wp2_with (first
    | (at_make; obtain ⟨i0, hi, hz0, hz1, hz2⟩ := info_parts info_int; refine wpList_make_full _ rfl _ _ 47 rfl w.heap.size 3 i0 (.int .i64 0) 1 Tryd.underlying47 hi hz0 hz1 _ _ _ _ n rfl rfl rfl rfl (by rw [hz2]; have := hnH.out; omega) (by unfold maxLen; have := hnH.out; omega) (Nat.le_refl _) ?_; intro w1 hown1 hgrow1; clear hi hz0 hz1 hz2)
    | go_in)
  have hat1 : w1.ownsRow w.heap.size 3 1 (.slice (some ⟨w.heap.size, 0, none⟩) n n) n (numf (fun _ => 0) n) := by
    have e : (madeCells (Value.int .i64 0).cells (n * 1)).toList = numf (fun _ => 0) n := by
      rw [numf_zero, Nat.mul_one]
      exact toList_madeCells_one _ _
    rw [← e]; exact hown1
  have hB1 : Below w.heap.size w w1 := ⟨hgrow1.os, hgrow1.tape, hgrow1.output, hgrow1.size, fun k hk => hgrow1.block k hk (by simp)⟩
  clear hown1 hgrow1
  generalize hgb : w.heap.size = gb at *
  have hgbH : Hid (w.heap.size = gb) := hgb
  clear hgb
  go_loopw [10] (fun kv wr => ∃ (k : Nat), kv = .int .i64 k ∧ k ≤ n ∧ wr.ownsRow gb 3 1 (.slice (some ⟨gb, 0, none⟩) n n) n (numf (fun j => if j < k then (j : Int) else 0) n) ∧ Below gb w wr)
    (fun kv _ => n - (intOf kv).toNat)
  case atStart => exact ⟨0, rfl, Nat.zero_le _, by simpa using hat1, hB1⟩
  case round =>
    clear hat1 hB1
    obtain ⟨k, rfl, hkn, hown, hbl⟩ := hrel
    by_cases hk : k < n
    · have hki : (k : Int) < (n : Int) := by omega
      have hkH : Hid (k < n) := hk
      have hk2 : Hid (k ≤ 100000) := by have := hnH.out; show _ ≤ _; omega
      have y0 : wr.cell? ⟨gb, k, none⟩ = some (.int .i64 (if k < k then (k : Int) else 0)) := by rw [hown.cellAt k (by omega), numf_get hk]
      have f0 := owns_frz hown k
      have hownH : Hid _ := hown
      have hblH : Hid (Below gb w wr) := hbl
      clear hown hbl hk
      go_wp2
      refine ⟨⟨k + 1, ?_, hkH.out, ?_, ?_⟩, ?_⟩
      · first | exact int_succ k | exact int_wsucc hk2.out
      · have h2 := owns_store hownH.out (j := k) (.int .i64 (k : Int))
        rw [numf_set] at h2
        have e : numf (fp (fun j => if j < k then (j : Int) else 0) k (k : Int)) n = numf (fun j => if j < k + 1 then (j : Int) else 0) n := numf_congr fun j _ => by
          unfold fp
          by_cases e1 : j = k
          · rw [if_pos e1, if_pos (by omega), e1]
          · rw [if_neg e1]
            show (if j < k then (j : Int) else 0) = _
            by_cases e2 : j < k
            · rw [if_pos e2, if_pos (by omega)]
            · rw [if_neg e2, if_neg (by omega)]
        rw [← e]
        exact h2
      · exact hblH.out.setCell (Nat.le_refl gb) _
      · first | exact meas_1 hkH.out | exact meas_w hkH.out hk2.out
    · have hki : ¬ (k : Int) < (n : Int) := by omega
      have e : k = n := by omega
      subst e
      have e2 : numf (fun j => if j < k then (j : Int) else 0) k = numf (fun j => (j : Int)) k := numf_congr fun j hj => by rw [if_pos hj]
      rw [e2] at hown
      clear e2
      go_wp2
      go_ret
      rw [hgbH.out]
      exact ⟨rfl, hown, hbl⟩

theorem stMixedK : Tryd.prog.follows Departure.mixedOrders = true := by kernel_rfl

theorem lsA_bnd {l : List Int} {m : Nat} (hl : ∀ x ∈ l, 0 ≤ x ∧ x ≤ 1000000000) : ∀ (R : List Nat) (s : Ls) (T : Int), (∀ i ∈ R, i < l.length) → (∀ b, 0 ≤ s.W b ∧ s.W b ≤ T) → ∀ b, 0 ≤ (R.foldl (lst l m) s).W b ∧ (R.foldl (lst l m) s).W b ≤ T + (R.length : Int) * 1000000000 := by
  intro R
  induction R with
  | nil => intro s T _ h b; have := h b; simpa using this
  | cons i R ih =>
    intro s T hi h b
    have hx := hl _ (nm_mem (hi i (List.mem_cons_self ..)))
    have h2 := ih (lst l m s i) (T + 1000000000) (fun j hj => hi j (List.mem_cons_of_mem _ hj)) (fun c => by
      show 0 ≤ fp s.W (lm s.W m) (s.W (lm s.W m) + nm l i) c ∧ fp s.W (lm s.W m) (s.W (lm s.W m) + nm l i) c ≤ _
      by_cases e : c = lm s.W m
      · rw [e, fp_same]; have := h (lm s.W m); omega
      · rw [fp_ne e]; have := h c; omega) b
    rw [List.length_cons]
    show 0 ≤ (R.foldl (lst l m) (lst l m s i)).W b ∧ (R.foldl (lst l m) (lst l m s i)).W b ≤ _
    omega
theorem lsA_b60 {l : List Int} {m : Nat} (hl : ∀ x ∈ l, 0 ≤ x ∧ x ≤ 1000000000) {R : List Nat} (hR : ∀ i ∈ R, i < l.length) (hr : R.length ≤ 1000) (b : Nat) : 0 ≤ (lsA l m R).W b ∧ (lsA l m R).W b ≤ 1000000000000 := by
  have h := lsA_bnd (m := m) hl R ⟨fun _ => 0, fun _ => 0⟩ 0 hR (fun b => ⟨Int.le_refl _, Int.le_refl _⟩) b
  unfold lsA
  omega

set_option maxHeartbeats 2000000 in
set_option maxRecDepth 100000 in
theorem share_any {w : World} {ql qr : Option Addr} {l : List Int} {R : List Nat} {cl cr m : Nat} (hl : Nums w ql l) (hR : Nums w qr (R.map fun (i : Nat) => (i : Int))) (hn : l.length ≤ 60) (hr : R.length ≤ 1000) (hm : 1 ≤ m ∧ m ≤ 20) (hx : ∀ x ∈ l, 0 ≤ x ∧ x ≤ 1000000000) (hi : ∀ i ∈ R, i < l.length) :
    Calls Tryd.prog 30 #[.int .i64 (m : Int), .slice ql l.length cl, .slice qr R.length cr] w fun e w' => (∃ g, e = .returned (.tuple #[.slice (some ⟨g, 0, none⟩) l.length l.length, .int .i64 (xm (lsA l m R).W m)]) ∧ w'.ownsRow w.heap.size 3 1 (.slice (some ⟨g, 0, none⟩) l.length l.length) l.length (numf (lsA l m R).on l.length)) ∧ Below w.heap.size w w' := by
  have hnH : Hid (l.length ≤ 60) := hn
  have hrH : Hid (R.length ≤ 1000) := hr
  have hmH : Hid (1 ≤ m ∧ m ≤ 20) := hm
  have hxH : Hid (∀ x ∈ l, 0 ≤ x ∧ x ≤ 1000000000) := hx
  have hiH : Hid (∀ i ∈ R, i < l.length) := hi
  have hlH : Hid (Nums w ql l) := hl
  have hRH : Hid (Nums w qr (R.map fun (i : Nat) => (i : Int))) := hR
  clear hn hr hm hx hi hl hR
  obtain ⟨n, hnn⟩ : ∃ n, n = l.length := ⟨_, rfl⟩
  rw [← hnn] at hnH hiH ⊢
  have hnnH : Hid (n = l.length) := hnn
  clear hnn
  obtain ⟨gb, hgb⟩ : ∃ gb, gb = w.heap.size := ⟨_, rfl⟩
  have hgbH : Hid (gb = w.heap.size) := hgb
  rw [← hgb]
  go_enter Tryd.func30, Tryd.ntmps30
  go_wp2_with (first
    | (at_make; obtain ⟨i0, hi, hz0, hz1, hz2⟩ := info_parts info_int; refine wpList_make_full _ rfl _ _ 47 rfl gb 3 i0 (.int .i64 0) 1 Tryd.underlying47 hi hz0 hz1 _ _ _ _ n rfl rfl rfl rfl (by rw [hz2]; have := hnH.out; omega) (by unfold maxLen; have := hnH.out; omega) (by rw [hgb]; exact Nat.le_refl _) ?_; intro w1 hown1 hgrow1; clear hi hz0 hz1 hz2)
    | (at_make; obtain ⟨i0, hi, hz0, hz1, hz2⟩ := info_parts info_i64; refine wpList_make_full _ rfl _ _ 23 rfl w1.heap.size 2 i0 (.int .i64 0) 1 Tryd.underlying23 hi hz0 hz1 _ _ _ _ m rfl rfl rfl rfl (by rw [hz2]; have := hmH.out; omega) (by unfold maxLen; have := hmH.out; omega) (Nat.le_refl _) ?_; intro w2 hown2 hgrow2; clear hi hz0 hz1 hz2)
    | go_in)
  rw [← hgb] at hown1 ⊢
  have hat1 : w1.ownsRow gb 3 1 (.slice (some ⟨gb, 0, none⟩) n n) n (numf (fun _ => 0) n) := by
    have e : (madeCells (Value.int .i64 0).cells (n * 1)).toList = numf (fun _ => 0) n := by
      rw [numf_zero, Nat.mul_one]
      exact toList_madeCells_one _ _
    rw [← e]; exact hown1
  have hB1 : Below gb w w1 := ⟨hgrow1.os, hgrow1.tape, hgrow1.output, hgrow1.size, fun k hk => hgrow1.block k (by omega) (by simp)⟩
  have hg1 : gb < w1.heap.size := (hat1.lt _ rfl).2
  obtain ⟨gw, hgw⟩ : ∃ gw, gw = w1.heap.size := ⟨_, rfl⟩
  rw [← hgw] at hown2 hg1 ⊢
  have hat2 : w2.ownsRow gw 2 1 (.slice (some ⟨gw, 0, none⟩) m m) m (numf (fun _ => 0) m) := by
    have e : (madeCells (Value.int .i64 0).cells (m * 1)).toList = numf (fun _ => 0) m := by
      rw [numf_zero, Nat.mul_one]
      exact toList_madeCells_one _ _
    rw [← e]; exact hown2
  have hB2 : Below gw w1 w2 := ⟨hgrow2.os, hgrow2.tape, hgrow2.output, hgrow2.size, fun k hk => hgrow2.block k (by omega) (by simp)⟩
  have hat12 : w2.ownsRow gb 3 1 (.slice (some ⟨gb, 0, none⟩) n n) n (numf (fun _ => 0) n) := hat1.kept hgrow2 (Or.inr fun e => by cases e)
  have hB12 : Below gb w w2 := hB1.trans (hB2.mono (Nat.le_of_lt hg1))
  have hgH : Hid (gb < gw) := hg1
  clear hown1 hgrow1 hown2 hgrow2 hat1 hB1 hB2 hgw hg1 hgb
  go_loopw [19] (fun kv wr => ∃ (k : Nat), kv = .int .i64 k ∧ k ≤ R.length ∧ wr.ownsRow gw 2 1 (.slice (some ⟨gw, 0, none⟩) m m) m (numf (lsA l m (R.take k)).W m) ∧ wr.ownsRow gb 3 1 (.slice (some ⟨gb, 0, none⟩) n n) n (numf (lsA l m (R.take k)).on n) ∧ Below gb w wr)
    (fun kv _ => R.length - (intOf kv).toNat)
  case atStart => exact ⟨0, rfl, Nat.zero_le _, hat2, hat12, hB12⟩
  case round =>
    clear hat2 hat12 hB12
    obtain ⟨k, rfl, hkR, hrow, hin, hbl⟩ := hrel
    by_cases hk : k < R.length
    · have hkz : (k : Int) < (R.length : Int) := by omega
      have hkH : Hid (k < R.length) := hk
      have hk2 : Hid (k ≤ 100000) := by have := hrH.out; show _ ≤ _; omega
      obtain ⟨i, hi⟩ : ∃ i, i = R[k] := ⟨_, rfl⟩
      have hin2 : Hid (i < n) := hiH.out i (by rw [hi]; exact List.getElem_mem hk)
      have hiz : (i : Int) < (n : Int) := by have := hin2.out; omega
      have htk : Hid (lsA l m (R.take (k + 1)) = lst l m (lsA l m (R.take k)) i) := by show _ = _; rw [List.take_succ_eq_append_getElem hk, lsA_snoc]; exact congrArg (lst l m _) hi.symm
      have hok : Hid (∀ b, 0 ≤ (lsA l m (R.take k)).W b ∧ (lsA l m (R.take k)).W b ≤ 1000000000000) := lsA_b60 hxH.out (fun j hj => by rw [← hnnH.out]; exact hiH.out j (List.mem_of_mem_take hj)) (by rw [List.length_take]; have := hrH.out; omega)
      generalize lsA l m (R.take k) = s at *
      rcases hRH.out.below hbl (Nat.le_of_eq hgbH.out.symm) with h0 | ⟨b, o, rfl, hA⟩
      · rw [List.length_map] at h0; omega
      have z0 := hA.c k (by rw [List.length_map]; exact hk)
      have ez : nm (R.map fun (i : Nat) => (i : Int)) k = (i : Int) := by rw [nm_get (by rw [List.length_map]; exact hk), List.getElem_map]; exact congrArg (fun (z : Nat) => (z : Int)) hi.symm
      rw [ez] at z0
      have hlr := hlH.out.below hbl (Nat.le_of_eq hgbH.out.symm)
      rcases hlr with h0 | ⟨b1, o1, rfl, hA1⟩
      · have := hin2.out; have := hnnH.out; omega
      have z1 := hA1.c i (by rw [← hnnH.out]; exact hin2.out)
      have hb1lt : Hid (b1 < gb) := by
        rcases hlH.out with h0 | ⟨b2, o2, e2, hA2⟩
        · exfalso; have := hin2.out; have := hnnH.out; omega
        · cases e2
          show b1 < gb
          rw [hgbH.out]
          exact hA2.lt
      have hxiH : Hid (0 ≤ nm l i ∧ nm l i ≤ 1000000000) := hxH.out _ (nm_mem (show i < l.length by rw [← hnnH.out]; exact hin2.out))
      have hmin := Min_any (c := m) hrow hmH.out.1 (by have := hmH.out; omega)
      have hlm : Hid (lm s.W m < m) := lm_lt s.W hmH.out.1
      have hidx := Index_any (c := m) (s.W (lm s.W m)) hrow (by have := hmH.out; omega) hlm.out rfl (fun j hj => by have := lm_first s.W j hj; omega)
      have y0 : wr.cell? ⟨gb, i, none⟩ = some (.int .i64 (s.on i)) := by rw [hin.cellAt i (by have := hin2.out; omega), numf_get hin2.out]
      have f0 := owns_frz hin i
      have hrowH : Hid (wr.ownsRow gw 2 1 (.slice (some ⟨gw, 0, none⟩) m m) m (numf s.W m)) := hrow
      have hinH : Hid (wr.ownsRow gb 3 1 (.slice (some ⟨gb, 0, none⟩) n n) n (numf s.on n)) := hin
      have hblH : Hid (Below gb w wr) := hbl
      have z1H : Hid (wr.cell? ⟨b1, o1 + i, none⟩ = some (.int .i64 (nm l i))) := z1
      clear ez hA hA1 hi hkR hk hrow hin hbl z1
      go_wp2_with (first
        | (go_at_call 43; refine hmin.mono ?_; rintro e w' ⟨rfl, hw'⟩; have hw'' := hw'.symm; subst hw''; clear hmin)
        | (go_at_call 42; refine hidx.mono ?_; rintro e w' ⟨rfl, hw'⟩; have hw'' := hw'.symm; subst hw''; clear hidx)
        | fail)
      obtain ⟨bx, hbx⟩ : ∃ bx, bx = lm s.W m := ⟨_, rfl⟩
      have hst : Hid (lst l m s i = ⟨fp s.W bx (s.W bx + nm l i), fp s.on i (bx : Int)⟩) := by show _ = _; rw [hbx]; rfl
      rw [← hbx] at hlm ⊢
      clear hbx
      have hrow7 : Hid ((wr.setCell ⟨gb, i, none⟩ (.int .i64 (bx : Int))).ownsRow gw 2 1 (.slice (some ⟨gw, 0, none⟩) m m) m (numf s.W m)) := owns_set_other hrowH.out _ _ (fun g e => by cases e; have := hgH.out; show gw ≠ gb; omega)
      have hin7 : Hid ((wr.setCell ⟨gb, i, none⟩ (.int .i64 (bx : Int))).ownsRow gb 3 1 (.slice (some ⟨gb, 0, none⟩) n n) n (numf (fp s.on i (bx : Int)) n)) := by
        have h2 := owns_store hinH.out (j := i) (.int .i64 (bx : Int))
        rw [numf_set] at h2
        exact h2
      have hbl7 : Hid (Below gb w (wr.setCell ⟨gb, i, none⟩ (.int .i64 (bx : Int)))) := hblH.out.setCell (Nat.le_refl gb) _
      have z7 : (wr.setCell ⟨gb, i, none⟩ (.int .i64 (bx : Int))).cell? ⟨b1, o1 + i, none⟩ = some (.int .i64 (nm l i)) := (World.cell?_setCell_other _ _ _ _ (by intro e; simp only [Addr.mk.injEq] at e; have := hb1lt.out; omega)).trans z1H.out
      clear y0 f0 z0 z1H hrowH hinH hblH
      generalize wr.setCell ⟨gb, i, none⟩ (.int .i64 (bx : Int)) = w7 at *
      have y7 : w7.cell? ⟨gb, i, none⟩ = some (.int .i64 (bx : Int)) := by rw [hin7.out.cellAt i (by have := hin2.out; omega), numf_get hin2.out, fp_same]
      have x7 : w7.cell? ⟨gw, bx, none⟩ = some (.int .i64 (s.W bx)) := by rw [hrow7.out.cellAt bx (by have := hlm.out; omega), numf_get hlm.out]
      have f7 := owns_frz hrow7.out bx
      have bz : (bx : Int) < (m : Int) := by have := hlm.out; omega
      have bz2 : ¬ (bx : Int) < 0 := by omega
      have iz2 : ¬ (i : Int) < 0 := by omega
      have hwx : IntKind.i64.wrap (s.W bx + nm l i) = s.W bx + nm l i := by rw [IntKind.wrap_i64]; have h1 := hok.out bx; have h2 := hxiH.out; omega
      have mixed := stMixedK
      go_big_region_o
      have hrow8 : Hid (((w7.setCell ⟨gw, bx, none⟩ (.int .i64 (s.W bx + nm l i))).drew).ownsRow gw 2 1 (.slice (some ⟨gw, 0, none⟩) m m) m (numf (fp s.W bx (s.W bx + nm l i)) m)) := by
        have h2 := owns_store hrow7.out (j := bx) (.int .i64 (s.W bx + nm l i))
        rw [numf_set] at h2
        exact h2
      have hin8 : Hid (((w7.setCell ⟨gw, bx, none⟩ (.int .i64 (s.W bx + nm l i))).drew).ownsRow gb 3 1 (.slice (some ⟨gb, 0, none⟩) n n) n (numf (fp s.on i (bx : Int)) n)) := owns_set_other hin7.out _ _ (fun g e => by cases e; have := hgH.out; show gb ≠ gw; omega)
      have hbl8 : Hid (Below gb w ((w7.setCell ⟨gw, bx, none⟩ (.int .i64 (s.W bx + nm l i))).drew)) := (hbl7.out.setCell (Nat.le_of_lt hgH.out) _).drew
      clear y7 x7 f7 z7 bz bz2 hwx
      generalize (w7.setCell ⟨gw, bx, none⟩ (.int .i64 (s.W bx + nm l i))).drew = w8 at *
      go_wp2
      refine ⟨⟨k + 1, ?_, hkH.out, ?_, ?_, hbl8.out⟩, ?_⟩
      · first | exact int_succ k | exact int_wsucc hk2.out
      · rw [htk.out, hst.out]; exact hrow8.out
      · rw [htk.out, hst.out]; exact hin8.out
      · first | exact meas_1 hkH.out | exact meas_w hkH.out hk2.out
    · have hkz : ¬ (k : Int) < (R.length : Int) := by omega
      have e : k = R.length := by omega
      subst e
      rw [List.take_length] at hin hrow
      have hmx := Max_any (c := m) hrow hmH.out.1 (by have := hmH.out; omega)
      have hblH : Hid (Below gb w wr) := hbl
      have hinH : Hid _ := hin
      clear hbl hin hrow
      go_wp2_with (first
        | (go_at_call 44; refine hmx.mono ?_; rintro e w' ⟨rfl, hw'⟩; have hw'' := hw'.symm; subst hw''; clear hmx)
        | fail)
      go_ret2
      exact ⟨⟨gb, rfl, hinH.out⟩, hblH.out⟩

set_option maxHeartbeats 1000000 in
set_option maxRecDepth 100000 in
theorem Run_bad {w : World} {q : Option Addr} {l : List Int} {c : Nat} (m : Int) (h : Nums w q l) (hk : kl m l ≠ 0) :
    Calls Tryd.prog 17 #[.int .i64 m, .slice q l.length c] w fun e w' => e = .returned (.tuple #[.slice none 0 0, .int .i64 0, .int .i64 (kl m l)]) ∧ w' = w := by
  have hc := lcheck_any (c := c) m h
  have hkb : (kl m l != 0) = true := by simpa using hk
  clear h hk
  go_enter Tryd.func17, Tryd.ntmps17
  go_wp2_with (first
    | (go_at_call 29; refine hc.mono ?_; rintro e w2 ⟨rfl, hw'⟩; have hw'' := hw'.symm; subst hw''; clear hc)
    | go_in)
  go_ret3
  exact ⟨rfl, rfl⟩

set_option maxHeartbeats 1000000 in
set_option maxRecDepth 100000 in
theorem Run_ok {w : World} {q : Option Addr} {l : List Int} {c m : Nat} (h : Nums w q l) (hk : kl (m : Int) l = 0) :
    Calls Tryd.prog 17 #[.int .i64 (m : Int), .slice q l.length c] w fun e w' => (∃ g, e = .returned (.tuple #[.slice (some ⟨g, 0, none⟩) l.length l.length, .int .i64 (xm (lsA l m (List.range l.length)).W m), .int .i64 0]) ∧ w'.ownsRow w.heap.size 3 1 (.slice (some ⟨g, 0, none⟩) l.length l.length) l.length (numf (lsA l m (List.range l.length)).on l.length)) ∧ Below w.heap.size w w' := by
  have hc := lcheck_any (c := c) (m : Int) h
  obtain ⟨k1, k2, k3⟩ := kl_ok hk
  rw [hk] at hc
  have hio : Hid (Calls Tryd.prog 31 #[.slice q l.length c] w fun e w' => e = .returned (.slice (some ⟨w.heap.size, 0, none⟩) l.length l.length) ∧ w'.ownsRow w.heap.size 3 1 (.slice (some ⟨w.heap.size, 0, none⟩) l.length l.length) l.length (numf (fun j => (j : Int)) l.length) ∧ Below w.heap.size w w') := inOrder_any q (by omega)
  have hfi : Hid (∀ (w3 : World) (qr : Option Addr) (cr : Nat), Below w.heap.size w w3 → Nums w3 qr ((List.range l.length).map fun (i : Nat) => (i : Int)) → Calls Tryd.prog 30 #[.int .i64 (m : Int), .slice q l.length c, .slice qr l.length cr] w3 fun e w' => (∃ g, e = .returned (.tuple #[.slice (some ⟨g, 0, none⟩) l.length l.length, .int .i64 (xm (lsA l m (List.range l.length)).W m)]) ∧ w'.ownsRow w3.heap.size 3 1 (.slice (some ⟨g, 0, none⟩) l.length l.length) l.length (numf (lsA l m (List.range l.length)).on l.length)) ∧ Below w3.heap.size w3 w') := by
    intro w3 qr cr hb hN
    have h2 := share_any (cl := c) (cr := cr) (m := m) (h.below hb (Nat.le_refl _)) hN (by omega) (by simp; omega) (by omega) k3 (fun i hi => List.mem_range.1 hi)
    rwa [List.length_range] at h2
  clear h hk k1 k2 k3
  generalize lsA l m (List.range l.length) = s at *
  go_enter Tryd.func17, Tryd.ntmps17
  go_wp2_with (first
    | (go_at_call 29; refine hc.mono ?_; rintro e w2 ⟨rfl, hw'⟩; have hw'' := hw'.symm; subst hw''; clear hc)
    | (go_at_call 31; refine hio.out.mono ?_; rintro e w3 ⟨rfl, hr3, hb3⟩; clear hio)
    | (go_at_call 30; refine (hfi.out _ _ _ hb3 (nums_row hr3)).mono ?_; rintro e w4 ⟨⟨g, rfl, hr4⟩, hb4⟩; clear hfi)
    | fail)
  go_ret3
  exact ⟨⟨g, rfl, owns_base' hr4 hb3.size⟩, hb3.trans (hb4.mono hb3.size)⟩

end Go.Proofs.YthfpdbogbmccjaaDoor
