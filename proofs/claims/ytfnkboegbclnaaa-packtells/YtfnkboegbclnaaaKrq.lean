/- The reference of package pack: Packed. -/
import Derived.Test.YtfnkboegbclnaaaKrp
import Derived.BigQuiet
namespace Go.Proofs.Ytfnkboegbclnaaa
open Go.RowKit
set_option linter.unusedSectionVars false
set_option linter.unusedVariables false

theorem numf_neg (N : Nat) : numf (fun j => if j < 0 then -1 else 0) N = numf (fun _ => 0) N := numf_congr fun j _ => rfl

set_option maxHeartbeats 2000000 in
set_option maxRecDepth 100000 in
theorem packed_any {w : World} {ql qr : Option Addr} {l : List Int} {R : List Nat} {cl cr : Nat} {size : Int} (hl : Nums w ql l) (hR : Nums w qr (R.map fun (i : Nat) => (i : Int))) (hk : kc l size = 0) (hP : Perm0 l.length R) :
    Calls Try.prog 14 #[.slice ql l.length cl, .int .i64 size, .slice qr R.length cr] w fun e w' => (∃ g, e = .returned (.tuple #[.slice (some ⟨g, 0, none⟩) l.length l.length, .int .i64 ((fsA l size R).m : Int)]) ∧ w'.ownsRow w.heap.size 3 1 (.slice (some ⟨g, 0, none⟩) l.length l.length) l.length (numf (jin R (fsA l size R)) l.length)) ∧ Below w.heap.size w w' := by
  obtain ⟨k1, k2, k3, k4⟩ := kc_ok hk
  obtain ⟨n, hnn⟩ : ∃ n, n = l.length := ⟨_, rfl⟩
  have hnd : R.Nodup := hP.perm.nodup_iff.2 List.nodup_range
  have hnH : Hid (n ≤ 100 ∧ l.length = n ∧ R.length = n) := ⟨by omega, hnn.symm, by rw [hP.len, hnn]⟩
  have hsH : Hid (1 ≤ size ∧ size ≤ 1099511627776) := ⟨k2, k3⟩
  have hxH : Hid (∀ x ∈ l, 1 ≤ x ∧ x ≤ size) := k4
  have hiH : Hid (∀ i ∈ R, i < n) := fun i hi => by have := hP.lt i hi; omega
  have hndH : Hid R.Nodup := hnd
  have hNl : Hid (∀ w1, Below w.heap.size w w1 → Nums w1 ql l) := fun w1 hb => hl.below hb (Nat.le_refl _)
  have hNR : Hid (∀ w1, Below w.heap.size w w1 → Nums w1 qr (R.map fun (i : Nat) => (i : Int))) := fun w1 hb => hR.below hb (Nat.le_refl _)
  have hRn : R.length = n := hnH.out.2.2
  rw [hRn]
  rw [← hnn]
  have hnz : ¬ (n : Int) < 0 := by omega
  clear hl hR hk k1 k2 k3 k4 hP hnd hnn hRn
  go_enter Try.func14, Try.ntmps14
  go_wp2_with (first
    | (at_make; obtain ⟨i0, hi, hz0, hz1, hz2⟩ := info_parts info_int; refine wpList_make_full _ rfl _ _ 23 rfl w.heap.size 3 i0 (.int .i64 0) 1 Try.underlying23 hi hz0 hz1 _ _ _ _ n rfl rfl rfl rfl (by rw [hz2]; have := hnH.out; omega) (by unfold maxLen; have := hnH.out; omega) (Nat.le_refl _) ?_; intro w1 hown1 hgrow1; clear hi hz0 hz1 hz2)
    | go_in)
  have hat1 : w1.ownsRow w.heap.size 3 1 (.slice (some ⟨w.heap.size, 0, none⟩) n n) n (numf (fun j => if j < 0 then -1 else 0) n) := by
    have e : (madeCells (Value.int .i64 0).cells (n * 1)).toList = numf (fun j => if j < 0 then -1 else 0) n := by
      rw [numf_neg, numf_zero, Nat.mul_one]
      exact toList_madeCells_one _ _
    rw [← e]; exact hown1
  have hB1 : Below w.heap.size w w1 := ⟨hgrow1.os, hgrow1.tape, hgrow1.output, hgrow1.size, fun k hk => hgrow1.block k hk (by simp)⟩
  clear hown1 hgrow1
  generalize hgb : w.heap.size = gb at *
  have hgbH : Hid (w.heap.size = gb) := hgb
  clear hgb
  go_loopw [19] (fun kv wr => ∃ (k : Nat), kv = .int .i64 k ∧ k ≤ n ∧ wr.ownsRow gb 3 1 (.slice (some ⟨gb, 0, none⟩) n n) n (numf (fun j => if j < k then -1 else 0) n) ∧ Below gb w wr)
    (fun kv _ => n - (intOf kv).toNat)
  case atStart => exact ⟨0, rfl, Nat.zero_le _, hat1, hB1⟩
  case round =>
    clear hat1 hB1
    obtain ⟨k, rfl, hkn, hown, hbl⟩ := hrel
    by_cases hk : k < n
    · have hki : (k : Int) < (n : Int) := by omega
      have hkH : Hid (k < n) := hk
      have hk2 : Hid (k ≤ 100000) := by have := hnH.out; show _ ≤ _; omega
      have y0 : wr.cell? ⟨gb, k, none⟩ = some (.int .i64 (if k < k then -1 else 0)) := by rw [hown.cellAt k (by omega), numf_get hk]
      have f0 := owns_frz hown k
      have hownH : Hid _ := hown
      have hblH : Hid (Below gb w wr) := hbl
      clear hown hbl hk
      go_wp2
      refine ⟨⟨k + 1, ?_, hkH.out, ?_, ?_⟩, ?_⟩
      · first | exact int_succ k | exact int_wsucc hk2.out
      · have h2 := owns_store hownH.out (j := k) (.int .i64 (-1))
        rw [numf_set] at h2
        have e : numf (fp (fun j => if j < k then -1 else 0) k (-1)) n = numf (fun j => if j < k + 1 then -1 else 0) n := numf_congr fun j _ => by
          unfold fp
          by_cases e1 : j = k
          · rw [if_pos e1, if_pos (by omega)]
          · rw [if_neg e1]
            show (if j < k then (-1 : Int) else 0) = _
            by_cases e2 : j < k
            · rw [if_pos e2, if_pos (by omega)]
            · rw [if_neg e2, if_neg (by omega)]
        rw [← e]
        exact h2
      · exact hblH.out.setCell (Nat.le_refl gb) _
      · first | exact meas_1 hkH.out | exact meas_w hkH.out hk2.out
    · have hki : ¬ (k : Int) < (n : Int) := by omega
      have e : k = n := by omega
      subst e
      have e2 : numf (fun j => if j < k then (-1 : Int) else 0) k = numf (jin [] ⟨0, fun _ => 0, fun _ => 0⟩) k := numf_congr fun j hj => by
        show (if j < k then (-1 : Int) else 0) = jin [] ⟨0, fun _ => 0, fun _ => 0⟩ j
        unfold jin
        rw [if_pos hj, if_neg (by simp)]
      rw [e2] at hown
      have hownH : Hid _ := hown
      have hblH : Hid (Below gb w wr) := hbl
      clear e2 hki hown hbl hkn
      rename World => wa
      go_wp2
      go_loopg [10, 28] k (fun gz0 mv jv wq => ∃ (j : Nat) (s : Fs), jv = .int .i64 j ∧ mv = .int .i64 (s.m : Int) ∧ k - j ≤ gz0 ∧ Hid (j ≤ k) ∧ Hid (s = fsA l size (R.take j)) ∧ Hid (wq.ownsRow gb 3 1 (.slice (some ⟨gb, 0, none⟩) k k) k (numf (jin (R.take j) s) k)) ∧ Hid (Below gb w wq))
      case atStart => exact ⟨0, ⟨0, fun _ => 0, fun _ => 0⟩, rfl, rfl, by omega, Nat.zero_le _, rfl, hownH.out, hblH.out⟩
      case round =>
        rename World => wq
        clear hownH hblH
        obtain ⟨j, s, rfl, rfl, hgz0, hjk, hs, hown, hbl⟩ := hrel
        by_cases hj : j < k
        · have hjz : (j : Int) < (k : Int) := by omega
          have hjH : Hid (j < k) := hj
          have hj5 : Hid (j ≤ 100000) := by have := hnH.out; show _ ≤ _; omega
          have hjR : j < R.length := by have := hnH.out; omega
          obtain ⟨i, hi⟩ : ∃ i, i = R[j] := ⟨_, rfl⟩
          have hik : i < k := hiH.out i (by rw [hi]; exact List.getElem_mem hjR)
          have hiz : (i : Int) < (k : Int) := by omega
          have hikH : Hid (i < k) := hik
          have htk : R.take (j + 1) = R.take j ++ [i] := by rw [List.take_succ_eq_append_getElem hjR, hi]
          have hs2 : Hid (fst l size s i = fsA l size (R.take (j + 1))) := by show _ = _; rw [htk, fsA_snoc, hs.out]
          have hjin : Hid (fp (jin (R.take j) s) i (bxF l s i : Int) = jin (R.take (j + 1)) (fst l size s i)) := by show _ = _; rw [htk]; exact jin_snoc l size _ s i
          have hInb : Hid (Inb l size (R.take j) s) := by
            have h2 := fold_inb (l := l) (size := size) (R.take j) [] ⟨0, fun _ => 0, fun _ => 0⟩ (by rw [List.nil_append]; exact hndH.out.sublist (List.take_sublist _ _)) ⟨fun i hi => by simp at hi, fun b hb => absurd hb (Nat.not_lt_zero _), fun b hb => absurd hb (Nat.not_lt_zero _)⟩
            rw [List.nil_append] at h2
            show Inb _ _ _ _
            rw [hs.out]
            exact h2
          have hndj : Hid ((R.take j).Nodup) := hndH.out.sublist (List.take_sublist _ _)
          have hltj : Hid (∀ x ∈ R.take j, x < k) := fun x hx => hiH.out x (List.mem_of_mem_take hx)
          have hok : Hid (s.m ≤ j) := by
            have := (fsA_ok hxH.out (R.take j) (fun x hx => by have := hiH.out x (List.mem_of_mem_take hx); have := hnH.out; omega)).m
            rw [List.length_take, Nat.min_eq_left (by omega), ← hs.out] at this
            exact this
          have hxi := hxH.out _ (nm_mem (show i < l.length by have := hnH.out; omega))
          have hxiH : Hid (1 ≤ nm l i ∧ nm l i ≤ size) := hxi
          obtain ⟨gr, og, rfl, hAR⟩ := (hNR.out wq (hgbH.out ▸ hbl.out)).resolve_left (by rw [List.length_map]; omega)
          have z0 := hAR.c j (by rw [List.length_map]; exact hjR)
          have ez : nm (R.map fun (i : Nat) => (i : Int)) j = (i : Int) := by rw [nm_get (by rw [List.length_map]; exact hjR), List.getElem_map]; exact congrArg (fun (z : Nat) => (z : Int)) hi.symm
          rw [ez] at z0
          have hroom : Hid (∀ b m : Nat, Calls Try.prog 31 #[.slice ql k cl, .int .i64 size, .slice (some ⟨gb, 0, none⟩) k k, .int .i64 (b : Int)] (wq.drewN m) fun e w' => e = .returned (.int .i64 (size - sb l (jin (R.take j) s) (b : Int) (List.range k))) ∧ w' = wq.drewN m) := fun b m => by
            have hbm : Below gb w (wq.drewN m) := hbl.out.trans ⟨rfl, rfl, rfl, Nat.le_refl _, fun _ _ => rfl⟩
            have hom : (wq.drewN m).ownsRow gb 3 1 (.slice (some ⟨gb, 0, none⟩) k k) k (numf (jin (R.take j) s) k) := hown.out
            have h2 := room_any (c := cl) (cb := k) size (b : Int) (hNl.out (wq.drewN m) (hgbH.out ▸ hbm)) (nums_row hom) (by rw [List.length_map, List.length_range]; have := hnH.out; omega) (by have := hnH.out; omega) (fun x hx => by have := hxH.out x hx; have := hsH.out; omega) (by have := hsH.out; omega)
            rw [List.length_map, List.length_range, hnH.out.2.1] at h2
            have e3 : sb l (nm ((List.range k).map (jin (R.take j) s))) (b : Int) (List.range k) = sb l (jin (R.take j) s) (b : Int) (List.range k) := sb_congr fun x hx => by rw [nm_row (List.mem_range.1 hx)]
            rw [e3] at h2
            exact h2
          obtain ⟨gl, ol, rfl, hAl⟩ := (hNl.out wq (hgbH.out ▸ hbl.out)).resolve_left (by have := hnH.out; omega)
          have zl := hAl.c i (by have := hnH.out; omega)
          have hno : Hid (∀ b : Nat, b < bxF l s i → size - sb l (jin (R.take j) s) (b : Int) (List.range k) < nm l i) := fun b hb => room_no hInb.out hndj.out hltj.out hb
          have hyes : Hid (¬ size - sb l (jin (R.take j) s) (bxF l s i : Int) (List.range k) < nm l i) := room_yes hInb.out hndj.out hltj.out hxi.2
          have hbx : Hid (bxF l s i ≤ s.m) := bxF_le l s i
          have hmax : Hid (((fst l size s i).m : Int) = max (s.m : Int) ((bxF l s i : Int) + 1)) := by show _ = _; rw [(fst_bxF l size s i).2]; omega
          have hownj : Hid _ := hown
          clear hj hjR hi hik htk hInb hndj hltj hxi hAR ez hAl hown
          generalize nm l i = x at *
          go_wp2
          generalize hbs : bxF l s i = bs at *
          have hbsH : Hid (bxF l s i = bs) := hbs
          clear hbs
          go_loopg [13] (bs + 1) (fun gz bv wz => ∃ b m : Nat, bv = .int .i64 b ∧ bs - b ≤ gz ∧ Hid (b ≤ bs) ∧ wz = wq.drewN m)
          case atStart => exact ⟨0, 0, rfl, by omega, Nat.zero_le _, rfl⟩
          case round =>
            rename World => wz
            obtain ⟨b, m, rfl, hgz, hb, hwz0⟩ := hrel
            have hwz : Hid (wz = wq.drewN m) := hwz0
            have zl2 : wz.cell? ⟨gl, ol + i, none⟩ = some (.int .i64 x) := by rw [hwz0]; exact zl
            clear hwz0 zl z0
            by_cases hbb : b < bs
            · have hr : ∀ q, Calls Try.prog 31 #[.slice (some ⟨gl, ol, none⟩) k cl, .int .i64 size, .slice (some ⟨gb, 0, none⟩) k k, .int .i64 (b : Int)] (wz.drewN q) fun e w' => e = .returned (.int .i64 (size - sb l (jin (R.take j) s) (b : Int) (List.range k))) ∧ w' = wz.drewN q := fun q => by rw [hwz.out, World.drewN_drewN]; exact hroom.out b (m + q)
              have hlt := hno.out b hbb
              have hbH : Hid (b < bs) := hbb
              have hb5 : Hid (b ≤ 100000) := by have := hbx.out; have := hok.out; have := hjH.out; have := hnH.out; show _ ≤ _; omega
              clear hbb
              generalize size - sb l (jin (R.take j) s) (b : Int) (List.range k) = ro at *
              go_wp2_with fail
              go_quiet ((go_at_call 31; refine Calls.quiet_of_same (hr _)))
              go_wp2
              go_roundg (bs - (b + 1))
              case measure => have := hbH.out; omega
              case rel => exact ⟨b + 1, m + nq, by first | exact int_wsucc hb5.out | exact int_succ b, Nat.le_refl _, hbH.out, by rw [hwz.out, World.drewN_drewN]⟩
            · have e : b = bs := by have := hb.out; omega
              subst e
              have hr : ∀ q, Calls Try.prog 31 #[.slice (some ⟨gl, ol, none⟩) k cl, .int .i64 size, .slice (some ⟨gb, 0, none⟩) k k, .int .i64 (b : Int)] (wz.drewN q) fun e w' => e = .returned (.int .i64 (size - sb l (jin (R.take j) s) (b : Int) (List.range k))) ∧ w' = wz.drewN q := fun q => by rw [hwz.out, World.drewN_drewN]; exact hroom.out b (m + q)
              have hlt := hyes.out
              clear hbb
              generalize size - sb l (jin (R.take j) s) (b : Int) (List.range k) = ro at *
              go_wp2_with fail
              go_quiet ((go_at_call 31; refine Calls.quiet_of_same (hr _)))
              have hw9 : wz.drewN nq = wq.drewN (m + nq) := by rw [hwz.out, World.drewN_drewN]
              have hown9 : Hid ((wz.drewN nq).ownsRow gb 3 1 (.slice (some ⟨gb, 0, none⟩) k k) k (numf (jin (R.take j) s) k)) := by
                show World.ownsRow _ _ _ _ _ _ _
                rw [hw9]
                exact hownj.out
              have hbl9 : Hid (Below gb w (wz.drewN nq)) := by
                show Below _ _ _
                rw [hw9]
                exact hbl.out.trans ⟨rfl, rfl, rfl, Nat.le_refl _, fun _ _ => rfl⟩
              have hb7 : (b : Int) ≤ (s.m : Int) ∧ (s.m : Int) ≤ 100 := by have := hbx.out; have := hok.out; have := hjH.out; have := hnH.out; omega
              have hb7H : Hid ((b : Int) ≤ (s.m : Int) ∧ (s.m : Int) ≤ 100) := hb7
              clear hw9 hwz zl2 hr hb7 hroom hno hyes
              generalize wz.drewN nq = wd at *
              have y0 : wd.cell? ⟨gb, i, none⟩ = some (.int .i64 (jin (R.take j) s i)) := by rw [hown9.out.cellAt i (by have := hikH.out; omega), numf_get hikH.out]
              have f0 := owns_frz hown9.out i
              have hwb : Hid (wrap64 ((b : Int) + 1) = (b : Int) + 1) := by have := hb7H.out; show _ = _; exact wrap_s (by omega)
              go_wp2
              go_roundg (k - (j + 1))
              case measure => have := hjH.out; omega
              refine ⟨j + 1, fst l size s i, ?_, ?_, Nat.le_refl _, hjH.out, hs2.out, ?_, ?_⟩
              · first | exact int_succ j | exact int_wsucc hj5.out
              · rw [hmax.out]
                first
                  | rfl
                  | (rw [← hwb.out]; done)
                  | (rw [hwb.out]; done)
                  | (have := hwb.out; simp [this]; done)
                  | (have := hwb.out; simp [this]; omega)
              · have h2 := owns_store hown9.out (j := i) (.int .i64 (b : Int))
                rw [numf_set, hjin.out] at h2
                exact h2
              · exact hbl9.out.setCell (Nat.le_refl gb) _
        · have hjz : ¬ (j : Int) < (k : Int) := by omega
          have e : j = k := by have := hjk.out; omega
          subst e
          have es : s = fsA l size R := by rw [hs.out, List.take_of_length_le (by have := hnH.out; omega)]
          have eo : wq.ownsRow gb 3 1 (.slice (some ⟨gb, 0, none⟩) j j) j (numf (jin R s) j) := by
            have := hown.out
            rwa [List.take_of_length_le (by have := hnH.out; omega)] at this
          rw [es] at eo ⊢
          have eoH : Hid _ := eo
          clear eo
          go_wp2
          go_ret2
          rw [hgbH.out]
          exact ⟨⟨gb, rfl, eoH.out⟩, hbl.out⟩
end Go.Proofs.Ytfnkboegbclnaaa
