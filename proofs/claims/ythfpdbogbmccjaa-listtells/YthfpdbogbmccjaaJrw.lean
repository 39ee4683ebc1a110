/- The reference of package list: most, Loads, Worked. -/
import Derived.Test.YthfpdbogbmccjaaJra
namespace Go.Proofs.Ythfpdbogbmccjaa
open Go.RowKit
set_option linter.unusedSectionVars false
set_option linter.unusedVariables false

/-- The greatest one, and not below 0. -/
def mst (W : Nat → Int) : Nat → Int
  | 0 => 0
  | k + 1 => max (mst W k) (W k)
theorem mst_nn (W : Nat → Int) : ∀ m, 0 ≤ mst W m := by
  intro m
  induction m with
  | zero => exact Int.le_refl _
  | succ m ih => rw [mst]; omega
theorem mst_ge (W : Nat → Int) : ∀ {m : Nat} b, b < m → W b ≤ mst W m := by
  intro m
  induction m with
  | zero => intro b h; omega
  | succ m ih =>
    intro b hb
    rw [mst]
    by_cases e : b = m
    · subst e; omega
    · have := ih b (by omega); omega
theorem mst_le {W : Nat → Int} {T : Int} (hT : 0 ≤ T) : ∀ {m : Nat}, (∀ b, b < m → W b ≤ T) → mst W m ≤ T := by
  intro m
  induction m with
  | zero => intro _; exact hT
  | succ m ih =>
    intro h
    have h1 := ih fun b hb => h b (by omega)
    have h2 := h m (by omega)
    rw [mst]; omega
theorem mst_congr {W W' : Nat → Int} : ∀ {m : Nat}, (∀ b, b < m → W b = W' b) → mst W m = mst W' m := by
  intro m
  induction m with
  | zero => intro _; rfl
  | succ m ih => intro h; rw [mst, mst, ih fun b hb => h b (by omega), h m (by omega)]
theorem mst_xm {W : Nat → Int} {m : Nat} (hm : 1 ≤ m) (h : ∀ b, b < m → 0 ≤ W b) : mst W m = xm W m := by
  obtain ⟨c, hc, e⟩ := xm_is W hm
  have h1 : mst W m ≤ xm W m := mst_le (by rw [e]; exact h c hc) fun b hb => xm_ge W b hb
  have h2 : xm W m ≤ mst W m := by rw [e]; exact mst_ge W c hc
  omega
theorem nm_map {W : Nat → Int} {m k : Nat} (h : k < m) : nm ((List.range m).map W) k = W k := by simp [nm, h]

set_option maxHeartbeats 1000000 in
set_option maxRecDepth 100000 in
theorem most_any {w : World} {q : Option Addr} {l : List Int} {c : Nat} (h : Nums w q l) (hn : l.length ≤ 1000) :
    Calls Try.prog 30 #[.slice q l.length c] w fun e w' => e = .returned (.int .i64 (mst (nm l) l.length)) ∧ w' = w := by
  have hnH : Hid (l.length ≤ 1000) := hn
  clear hn
  go_enter Try.func30, Try.ntmps30
  go_wp2
  go_loopw [3, 8] (fun sv iv wr => ∃ j : Nat, iv = .int .i64 j ∧ sv = .int .i64 (mst (nm l) j) ∧ j ≤ l.length ∧ wr = w)
    (fun _ iv _ => l.length - (intOf iv).toNat)
  case atStart => exact ⟨0, rfl, rfl, Nat.zero_le _, rfl⟩
  case round =>
    obtain ⟨j, rfl, rfl, hjl, rfl⟩ := hrel
    by_cases hj : j < l.length
    · rcases h with h0 | ⟨b, o, rfl, hA⟩
      · omega
      have z0 := hA.c j hj
      have hji : (j : Int) < (l.length : Int) := by omega
      have hjH : Hid (j < l.length) := hj
      have hj2 : Hid (j ≤ 100000) := by have := hnH.out; show _ ≤ _; omega
      have hst : Hid (mst (nm l) (j + 1) = max (mst (nm l) j) (nm l j)) := rfl
      generalize nm l j = x at *
      generalize mst (nm l) j = S at *
      clear hA hj
      go_wp2
      refine ⟨⟨j + 1, ?_, ?_, hjH.out, by first | rfl | trivial⟩, ?_⟩
      · first | exact int_succ j | exact int_wsucc hj2.out
      · rw [hst.out]; try exact congrArg (Value.int .i64) (by split <;> omega)
      · first | exact meas_1 hjH.out | exact meas_w hjH.out hj2.out
    · have hji : ¬ (j : Int) < (l.length : Int) := by omega
      have e : j = l.length := by omega
      subst e
      go_wp2
      go_ret
      exact ⟨rfl, rfl⟩

/-- What Loads tells. -/
def LdO (m : Nat) (l B : List Int) (base : Nat) (e : Ending) (w' : World) : Prop :=
  (B.length = l.length ∧ B.all (hdB m) = true ∧ ∃ p c, e = .returned (.tuple #[.slice p m c, .bool true]) ∧ w'.ownsRow base 2 1 (.slice p m c) m (numf (spF l (nm B) l.length) m)) ∨ (¬ (B.length = l.length ∧ B.all (hdB m) = true) ∧ e = .returned (.tuple #[.slice none 0 0, .bool false]))

set_option maxHeartbeats 2000000 in
set_option maxRecDepth 100000 in
theorem Loads_any {w : World} {q qb : Option Addr} {l B : List Int} {c cb m : Nat} (h : Nums w q l) (hB : Nums w qb B) (hk : kl (m : Int) l = 0) :
    Calls Try.prog 17 #[.int .i64 (m : Int), .slice q l.length c, .slice qb B.length cb] w fun e w' => LdO m l B w.heap.size e w' ∧ Below w.heap.size w w' := by
  obtain ⟨k1, k2, k3⟩ := kl_ok hk
  have hmH : Hid (1 ≤ m ∧ m ≤ 20) := ⟨by omega, by omega⟩
  by_cases hn : B.length = l.length
  · have hxH : Hid (∀ x ∈ l, 0 ≤ x ∧ x ≤ 1000000000) := k3
    have hnH : Hid (l.length ≤ 60) := k2
    have hlH : Hid (Nums w q l) := h
    have hBH : Hid (Nums w qb B) := hB
    have hyes : Hid (B.all (hdB m) = true → ∀ (w' : World) p c, w'.ownsRow w.heap.size 2 1 (.slice p m c) m (numf (spF l (nm B) l.length) m) → LdO m l B w.heap.size (.returned (.tuple #[.slice p m c, .bool true])) w') := fun x w' p c hr => Or.inl ⟨hn, x, p, c, rfl, hr⟩
    have hno : Hid (∀ k, k < B.length → hdB m (nm B k) = false → ∀ w' : World, LdO m l B w.heap.size (.returned (.tuple #[.slice none 0 0, .bool false])) w') := fun k hk x w' => by
      refine Or.inr ⟨?_, rfl⟩
      rintro ⟨_, h2⟩
      have := List.all_eq_true.1 h2 _ (nm_mem hk)
      rw [x] at this
      cases this
    have hnz : ((B.length : Int) != (l.length : Int)) = false := by rw [hn]; simp
    obtain ⟨n, hnn⟩ : ∃ n, n = l.length := ⟨_, rfl⟩
    rw [← hnn] at hnH hn hnz hyes ⊢
    have hnnH : Hid (n = l.length) := hnn
    have hBn : Hid (B.length = n) := hn
    rw [hn] at hno hnz ⊢
    clear h hB hk k1 k2 k3 hn hnn
    go_enter Try.func17, Try.ntmps17
    go_wp2_with (first
      | (at_make; obtain ⟨i0, hi, hz0, hz1, hz2⟩ := info_parts info_i64; refine wpList_make_full _ rfl _ _ 22 rfl w.heap.size 2 i0 (.int .i64 0) 1 Try.underlying22 hi hz0 hz1 _ _ _ _ m rfl rfl rfl rfl (by rw [hz2]; have := hmH.out; omega) (by unfold maxLen; have := hmH.out; omega) (Nat.le_refl _) ?_; intro w2 hown2 hgrow2; clear hi hz0 hz1 hz2)
      | fail)
    have hat2 : w2.ownsRow w.heap.size 2 1 (.slice (some ⟨w.heap.size, 0, none⟩) m m) m (numf (fun _ => 0) m) := by
      have e : (madeCells (Value.int .i64 0).cells (m * 1)).toList = numf (fun _ => 0) m := by
        rw [numf_zero, Nat.mul_one]
        exact toList_madeCells_one _ _
      rw [← e]; exact hown2
    have hB2 : Below w.heap.size w w2 := ⟨hgrow2.os, hgrow2.tape, hgrow2.output, hgrow2.size, fun k hk => hgrow2.block k (by omega) (by simp)⟩
    clear hown2 hgrow2
    obtain ⟨gw, hgw⟩ : ∃ gw, gw = w.heap.size := ⟨_, rfl⟩
    have hgwH : Hid (gw = w.heap.size) := hgw
    rw [← hgw] at hat2 hB2 hyes hno ⊢
    clear hgw
    go_loopw [20] (fun kv wr => ∃ (k : Nat), kv = .int .i64 k ∧ k ≤ n ∧ Hid (∀ j, j < k → hdB m (nm B j) = true) ∧ wr.ownsRow gw 2 1 (.slice (some ⟨gw, 0, none⟩) m m) m (numf (spF l (nm B) k) m) ∧ Below gw w wr)
      (fun kv _ => n - (intOf kv).toNat)
    case atStart => exact ⟨0, rfl, Nat.zero_le _, fun j hj => by omega, hat2, hB2⟩
    case round =>
      clear hat2 hB2
      obtain ⟨k, rfl, hkn, hall, hrow, hbl⟩ := hrel
      by_cases hk : k < n
      · have hkz : (k : Int) < (n : Int) := by omega
        have kz2 : ¬ (k : Int) < 0 := by omega
        have hkH : Hid (k < n) := hk
        have hk2 : Hid (k ≤ 100000) := by have := hnH.out; show _ ≤ _; omega
        rcases hlH.out.below hbl (Nat.le_of_eq hgwH.out.symm) with h0 | ⟨b1, o1, rfl, hA1⟩
        · have := hnnH.out; omega
        rcases hBH.out.below hbl (Nat.le_of_eq hgwH.out.symm) with h0 | ⟨b2, o2, rfl, hA2⟩
        · have := hBn.out; omega
        have z1 := hA1.c k (by rw [← hnnH.out]; exact hk)
        have z2 := hA2.c k (by rw [hBn.out]; exact hk)
        have hblH : Hid (Below gw w wr) := hbl
        have hst : Hid (spF l (nm B) (k + 1) = fp (spF l (nm B) k) (nm B k).toNat (spF l (nm B) k (nm B k).toNat + nm l k)) := rfl
        have hbn := spF_bnd hxH.out (nm B) k (by rw [← hnnH.out]; exact hkn) (nm B k).toNat
        have hx := hxH.out _ (nm_mem (show k < l.length by rw [← hnnH.out]; exact hk))
        have hbnH : Hid (0 ≤ spF l (nm B) k (nm B k).toNat ∧ spF l (nm B) k (nm B k).toNat ≤ 60000000000 ∧ 0 ≤ nm l k ∧ nm l k ≤ 1000000000) := by have := hnH.out; show _ ∧ _; omega
        have hnoH : Hid (hdB m (nm B k) = false → ∀ w' : World, LdO m l B gw (.returned (.tuple #[.slice none 0 0, .bool false])) w') := hno.out k hk
        have hallS : Hid (hdB m (nm B k) = true → ∀ j, j < k + 1 → hdB m (nm B j) = true) := fun h2 j hj => by
          by_cases e : j = k
          · rw [e]; exact h2
          · exact hall.out j (by omega)
        generalize hy : nm B k = y at *
        generalize nm l k = x at *
        clear hA1 hA2 hbl hbn hx hk hkn hall hy
        by_cases hy0 : y < 0
        · have hy0d : decide (y < 0) = true := decide_eq_true hy0
          have hres : Hid (∀ w' : World, LdO m l B gw (.returned (.tuple #[.slice none 0 0, .bool false])) w') := hnoH.out (by unfold hdB; exact decide_eq_false (by omega))
          clear hrow hst hbnH hnoH hallS
          go_wp2
          go_ret2
          exact ⟨hgwH.out ▸ hres.out _, hgwH.out ▸ hblH.out⟩
        · have hy0d : decide (y < 0) = false := decide_eq_false hy0
          by_cases hym : (m : Int) ≤ y
          · have hres : Hid (∀ w' : World, LdO m l B gw (.returned (.tuple #[.slice none 0 0, .bool false])) w') := hnoH.out (by unfold hdB; exact decide_eq_false (by omega))
            clear hrow hst hbnH hnoH hallS
            go_wp2
            go_ret2
            exact ⟨hgwH.out ▸ hres.out _, hgwH.out ▸ hblH.out⟩
          · have hallH : Hid _ := hallS.out (by unfold hdB; exact decide_eq_true (by omega))
            obtain ⟨h, rfl⟩ : ∃ h : Nat, y = (h : Int) := ⟨y.toNat, by omega⟩
            rw [Int.toNat_natCast] at hst hbnH
            have hhm : Hid (h < m) := by show _ < _; omega
            have hz : (h : Int) < (m : Int) := by omega
            have x7 : wr.cell? ⟨gw, h, none⟩ = some (.int .i64 (spF l (nm B) k h)) := by rw [hrow.cellAt h (by have := hhm.out; omega), numf_get hhm.out]
            have f7 := owns_frz hrow h
            have hwx : IntKind.i64.wrap (spF l (nm B) k h + x) = spF l (nm B) k h + x := by rw [IntKind.wrap_i64]; have h2 := hbnH.out; omega
            have hrowH : Hid (wr.ownsRow gw 2 1 (.slice (some ⟨gw, 0, none⟩) m m) m (numf (spF l (nm B) k) m)) := hrow
            have mixed := stMixedK
            clear hrow hallS hnoH
            generalize spF l (nm B) k = E at *
            go_wp2_with fail
            go_big_region_o
            have hrow8 : Hid (((wr.setCell ⟨gw, h, none⟩ (.int .i64 (E h + x))).drew).ownsRow gw 2 1 (.slice (some ⟨gw, 0, none⟩) m m) m (numf (fp E h (E h + x)) m)) := by
              have h2 := owns_store hrowH.out (j := h) (.int .i64 (E h + x))
              rw [numf_set] at h2
              exact h2
            have hbl8 : Hid (Below gw w ((wr.setCell ⟨gw, h, none⟩ (.int .i64 (E h + x))).drew)) := (hblH.out.setCell (Nat.le_refl gw) _).drew
            clear x7 f7 z1 z2 hwx
            generalize (wr.setCell ⟨gw, h, none⟩ (.int .i64 (E h + x))).drew = w8 at *
            go_wp2
            refine ⟨⟨k + 1, ?_, hkH.out, hallH, ?_, hbl8.out⟩, ?_⟩
            · first | exact int_succ k | exact int_wsucc hk2.out
            · rw [hst.out]; exact hrow8.out
            · first | exact meas_1 hkH.out | exact meas_w hkH.out hk2.out
      · have hkz : ¬ (k : Int) < (n : Int) := by omega
        have e : k = n := by omega
        subst e
        have hres : Hid _ := hyes.out (List.all_eq_true.2 fun x hx => by
          obtain ⟨j, hj, rfl⟩ := List.getElem_of_mem hx
          rw [← nm_get hj]
          exact hall.out j (by rw [← hBn.out]; exact hj))
        have hblH : Hid (Below gw w wr) := hbl
        have hrowH : Hid _ := hrow
        clear hbl hrow hall hyes hno
        go_wp2
        go_ret2
        exact ⟨hgwH.out ▸ hres.out _ _ _ hrowH.out, hgwH.out ▸ hblH.out⟩
  · have hres : Hid (∀ w' : World, LdO m l B w.heap.size (.returned (.tuple #[.slice none 0 0, .bool false])) w') := fun w' => Or.inr ⟨fun x => hn x.1, rfl⟩
    have hnz : ((B.length : Int) != (l.length : Int)) = true := by simp; omega
    clear h hB hk k1 k2 k3 hn
    go_enter Try.func17, Try.ntmps17
    go_wp2_with (first
      | (at_make; obtain ⟨i0, hi, hz0, hz1, hz2⟩ := info_parts info_i64; refine wpList_make_full _ rfl _ _ 22 rfl w.heap.size 2 i0 (.int .i64 0) 1 Try.underlying22 hi hz0 hz1 _ _ _ _ m rfl rfl rfl rfl (by rw [hz2]; have := hmH.out; omega) (by unfold maxLen; have := hmH.out; omega) (Nat.le_refl _) ?_; intro w2 hown2 hgrow2; clear hi hz0 hz1 hz2)
      | fail)
    go_ret2
    exact ⟨hres.out _, ⟨hgrow2.os, hgrow2.tape, hgrow2.output, hgrow2.size, fun k hk => hgrow2.block k (by omega) (by simp)⟩⟩
end Go.Proofs.Ythfpdbogbmccjaa
