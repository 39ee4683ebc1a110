/- The reference's InRow: of a graph in which nothing comes behind itself, the greedy row. -/
import Derived.Test.YtncjnmlgkhngaaaDoorGwk
namespace Go.Proofs.YtncjnmlgkhngaaaDoor
open Go.RowKit Gm
set_option linter.unusedSectionVars false
set_option linter.unusedVariables false

theorem all_len : ∀ (n : Nat) (R : List Nat), (∀ j, j < n → j ∈ R) → n ≤ R.length
  | 0, _, _ => Nat.zero_le _
  | n + 1, R, h => by
    have h1 := all_len n (R.erase n) (fun j hj => (List.mem_erase_of_ne (by omega)).2 (h j (by omega)))
    have h2 := h n (by omega)
    rw [List.length_erase_of_mem h2] at h1
    have := List.length_pos_of_mem h2
    omega
/-- Where nothing comes behind itself, and not all stand in the row, one is free. -/
theorem some_free {l : List Ed} {n : Nat} {R : List Nat} (hg : Gr n l) (hac : ∀ i, ¬ Rch (eB l) i i) (hlt : R.length < n) (hno : ∀ d, d < n → ¬ Fre (eB l) n R d) : False := by
  have hx : ∃ c, c < n ∧ c ∉ R := by
    refine Classical.byContradiction fun hc => ?_
    have := all_len n R (fun j hj => Classical.byContradiction fun h2 => hc ⟨j, hj, h2⟩)
    omega
  obtain ⟨c, hc, hcR⟩ := hx
  obtain ⟨i, hi⟩ := Gm.stuck hg (R := R) (fun c hc hcR => Classical.byContradiction fun h2 => hno c hc ⟨hc, hcR, fun j hj => Classical.byContradiction fun h3 => h2 ⟨j, hj, h3⟩⟩) hc hcR
  exact hac i hi
/-- What the innermost round finds: whether i is free, as far as the edges were looked at. -/
def okF (R : List Nat) (i : Nat) (l : List Ed) : Bool := !decide (i ∈ R) && l.all fun e => !(decide (e.t = (i : Int)) && !decide (e.f.toNat ∈ R))
theorem okF_snoc (R : List Nat) (i : Nat) {l : List Ed} {k : Nat} (hk : k < l.length) : okF R i (l.take (k + 1)) = (okF R i (l.take k) && !(decide ((ed l k).t = (i : Int)) && !decide ((ed l k).f.toNat ∈ R))) := by
  unfold okF
  rw [take_snoc hk, List.all_append, ← Bool.and_assoc]
  simp
theorem okF_fre {l : List Ed} {n : Nat} {R : List Nat} {i : Nat} (hg : Gr n l) (hi : i < n) : okF R i l = true ↔ Fre (eB l) n R i := by
  unfold okF
  simp only [Bool.and_eq_true, List.all_eq_true, Bool.not_eq_true', decide_eq_false_iff_not, Bool.and_eq_false_iff, Bool.not_eq_false', decide_eq_true_iff]
  constructor
  · rintro ⟨h1, h2⟩
    refine ⟨hi, h1, fun j hj => ?_⟩
    obtain ⟨e, he, h3, h4⟩ := eB_true.1 hj
    rcases h2 e he with h5 | h5
    · exact absurd h4 h5
    · rwa [h3, Int.toNat_natCast] at h5
  · rintro ⟨_, h1, h2⟩
    refine ⟨h1, fun e he => ?_⟩
    by_cases h3 : e.t = (i : Int)
    · right
      have := hg.ok e he
      exact h2 e.f.toNat (eB_true.2 ⟨e, he, by omega, h3⟩)
    · exact Or.inl h3
theorem bls_mem (R : List Nat) (i n : Nat) : bls (fun j => decide (j ∈ R) || decide (j = i)) n = bls (fun j => decide (j ∈ R ++ [i])) n := by
  unfold bls
  congr 1
  funext j
  simp

set_option maxHeartbeats 2000000 in
set_option maxRecDepth 100000 in
theorem inrow_any {n : Nat} {w : World} {q : Option Addr} {l : List Ed} {cap : Nat} (h : Eds w q l) (hg : Gr n l) (hl : l.length ≤ 400) (hac : ∀ i, ¬ Rch (eB l) i i) :
    Calls Tryd.prog 16 #[.int .i64 (n : Int), .slice q l.length cap] w fun e w' => ∃ (R : List Nat) (p : Option Addr) (c : Nat), e = .returned (.slice p n c) ∧ (w'.ownsRow w.heap.size 3 1 (.slice p n c) n (ints R) ∧ R.length = n ∧ Grd (eB l) n R) ∧ Below w.heap.size w w' := by
  have hgH : Hid (Gr n l) := hg
  have hlH : Hid (l.length ≤ 400) := hl
  have hnH : Hid (n ≤ 60) := hg.n60
  have hacH : Hid (∀ i, ¬ Rch (eB l) i i) := hac
  have hE : Hid (∀ w1, Below w.heap.size w w1 → Eds w1 q l) := fun w1 hb => h.below hb (Nat.le_refl _)
  clear h hg hl hac
  go_enter Tryd.func16, Tryd.ntmps16
  go_wp2_with (first
    | (at_make; obtain ⟨i0, hi, hz0, hz1, hz2⟩ := info_parts info_bool; refine wpList_make_full _ rfl _ _ 33 rfl w.heap.size 4 i0 (.bool false) 1 Tryd.underlying33 hi hz0 hz1 _ _ _ _ n rfl rfl rfl rfl (by rw [hz2]; have := hnH.out; omega) (by unfold maxLen; have := hnH.out; omega) (Nat.le_refl _) ?_; intro w1 hown1 hgrow1; clear hi hz0 hz1 hz2)
    | go_in)
  have hat1 : w1.ownsRow w.heap.size 4 1 (.slice (some ⟨w.heap.size, 0, none⟩) n n) n (bls (fun j => decide (j ∈ ([] : List Nat))) n) := by
    have e : (madeCells (Value.bool false).cells (n * 1)).toList = bls (fun j => decide (j ∈ ([] : List Nat))) n := by
      have e2 : (fun j => decide (j ∈ ([] : List Nat))) = fun _ => false := by funext j; simp
      rw [e2, bls_zero, Nat.mul_one]
      exact toList_madeCells_one _ _
    rw [← e]; exact hown1
  have hB1 : Below w.heap.size w w1 := ⟨hgrow1.os, hgrow1.tape, hgrow1.output, hgrow1.size, fun k hk => hgrow1.block k hk (by simp)⟩
  clear hown1 hgrow1
  generalize hgb : w.heap.size = gb at *
  have hgbH : Hid (w.heap.size = gb) := hgb
  clear hgb
  go_loopw [5, 14] (fun ov kv wr => ∃ (R : List Nat) (k : Nat) (p : Option Addr) (c : Nat), kv = .int .i64 k ∧ ov = .slice p k c ∧ k ≤ n ∧ R.length = k ∧ Grd (eB l) n R ∧ wr.ownsRow (gb + 1) 3 1 (.slice p k c) k (ints R) ∧ wr.ownsRow gb 4 1 (.slice (some ⟨gb, 0, none⟩) n n) n (bls (fun j => decide (j ∈ R)) n) ∧ Below gb w wr)
    (fun _ kv _ => n - (intOf kv).toNat)
  case atStart => exact ⟨[], 0, none, 0, rfl, rfl, Nat.zero_le _, rfl, .nil, World.ownsRow_nil _ _ _ _, hat1, hB1⟩
  case round =>
    clear hat1 hB1
    obtain ⟨R, k, p, c, rfl, rfl, hkn, hRk, hgrd, hown, hdone, hbl⟩ := hrel
    have hRkH : Hid (R.length = k) := hRk
    have hgrdH : Hid (Grd (eB l) n R) := hgrd
    have hblH : Hid (Below gb w wr) := hbl
    have hownH : Hid (wr.ownsRow (gb + 1) 3 1 (.slice p k c) k (ints R)) := hown
    have hdoneH : Hid (wr.ownsRow gb 4 1 (.slice (some ⟨gb, 0, none⟩) n n) n (bls (fun j => decide (j ∈ R)) n)) := hdone
    have hgs : Hid (gb < wr.heap.size) := (hdone.lt _ rfl).2
    clear hRk hgrd hbl hown hdone
    by_cases hk : k < n
    · have hki : (k : Int) < (n : Int) := by omega
      have hkH : Hid (k < n) := hk
      have hk2 : Hid (k ≤ 100000) := by have := hnH.out; show _ ≤ _; omega
      go_wp2
      go_loopw [5, 17] (fun ov iv wi => ∃ i : Nat, iv = .int .i64 i ∧ ov = .slice p k c ∧ i ≤ n ∧ (∀ d, d < i → ¬ Fre (eB l) n R d) ∧ Below wr.heap.size wr wi)
        (fun _ iv _ => n - (intOf iv).toNat)
      case atStart => exact ⟨0, rfl, rfl, Nat.zero_le _, fun d hd => absurd hd (by omega), Below.refl _ _⟩
      case round =>
        rename World => wi
        obtain ⟨i, rfl, rfl, hin, hnof, hbi⟩ := hrel
        have hnofH : Hid (∀ d, d < i → ¬ Fre (eB l) n R d) := hnof
        clear hnof
        by_cases hi : i < n
        · have hii : (i : Int) < (n : Int) := by omega
          have hiH : Hid (i < n) := hi
          have hi2 : Hid (i ≤ 100000) := by have := hnH.out; show _ ≤ _; omega
          have hd1 := row_below hdoneH.out hbi
          have y0 : wi.cell? ⟨gb, i, none⟩ = some (.bool (decide (i ∈ R))) := by
            rw [hd1.cellAt i (by omega), bls_get hi]
          clear hd1
          have hok0 : Hid ((!decide (i ∈ R)) = okF R i (l.take 0)) := by show _ = _; simp [okF]
          generalize decide (i ∈ R) = di at *
          have hi0 : ¬ (i : Int) < 0 := by omega
          have hni : ¬ (n : Int) ≤ (i : Int) := by omega
          go_wp2
          go_loopw [8, 27] (fun zv jv wj => ∃ j : Nat, jv = .int .i64 j ∧ zv = .bool (okF R i (l.take j)) ∧ j ≤ l.length ∧ Below wr.heap.size wr wj)
            (fun _ jv _ => l.length - (intOf jv).toNat)
          case atStart => exact ⟨0, rfl, by rw [← hok0.out], Nat.zero_le _, hbi⟩
          case round =>
            rename World => wj
            clear y0 hbi hok0
            obtain ⟨j, rfl, rfl, hjl, hbj⟩ := hrel
            by_cases hj : j < l.length
            · have hsn := okF_snoc R i hj
              have hok := hgH.out.ok _ (ed_mem hj)
              rcases hE.out wj (hblH.out.trans (hbj.mono (Nat.le_of_lt hgs.out))) with hh0 | ⟨eb, eo, rfl, hAr⟩
              · omega
              have z0 := hAr.cf j hj
              have z1 := hAr.ct j hj
              have hji : (j : Int) < (l.length : Int) := by omega
              have hj2 : Hid (j ≤ 100000) := by have := hlH.out; show _ ≤ _; omega
              obtain ⟨F, hF⟩ : ∃ F : Nat, (ed l j).f = (F : Int) := ⟨(ed l j).f.toNat, by omega⟩
              obtain ⟨T, hT⟩ : ∃ T : Nat, (ed l j).t = (T : Int) := ⟨(ed l j).t.toNat, by omega⟩
              have hFn : F < n := by omega
              rw [hF, hT, Int.toNat_natCast] at hsn
              rw [hF] at z0
              rw [hT] at z1
              have hd1 := row_below hdoneH.out hbj
              have x0 : wj.cell? ⟨gb, F, none⟩ = some (.bool (decide (F ∈ R))) := by
                rw [hd1.cellAt F (by omega), bls_get hFn]
              have x1 := cell_alloc x0 (.cells #[.int .i64 (F : Int), .int .i64 (T : Int)] 41)
              have hFi : (F : Int) < (n : Int) := by omega
              have hF0 : ¬ (F : Int) < 0 := by omega
              have hFg : ¬ (n : Int) ≤ (F : Int) := by omega
              have hbA : Hid (Below wr.heap.size wr (wj.alloc (.cells #[.int .i64 (F : Int), .int .i64 (T : Int)] 41))) := hbj.alloc hbj.size _
              have hsnH : Hid (okF R i (l.take (j + 1)) = (okF R i (l.take j) && !(decide ((T : Int) = (i : Int)) && !decide (F ∈ R)))) := hsn
              clear hsn hok hF hT hAr hE hd1 x0 hbj
              generalize okF R i (l.take j) = z at *
              generalize decide (F ∈ R) = dF at *
              by_cases hTi : (T : Int) = (i : Int)
              · have hTe : ((T : Int) == (i : Int)) = true := by simp [hTi]
                have hTd : decide ((T : Int) = (i : Int)) = true := decide_eq_true hTi
                rw [hTd] at hsnH
                clear hTi hTd
                cases dF with
                | true =>
                  have hst : Hid (okF R i (l.take (j + 1)) = z) := by show _ = _; rw [hsnH.out]; simp
                  clear hsnH
                  go_wp2
                  refine ⟨⟨j + 1, ?_, by rw [hst.out], hj, hbA.out⟩, ?_⟩
                  · first | exact int_succ j | exact int_wsucc hj2.out
                  · first | exact meas_1 hj | exact meas_w hj hj2.out
                | false =>
                  have hst : Hid (okF R i (l.take (j + 1)) = false) := by show _ = _; rw [hsnH.out]; simp
                  clear hsnH
                  go_wp2
                  refine ⟨⟨j + 1, ?_, by rw [hst.out], hj, hbA.out⟩, ?_⟩
                  · first | exact int_succ j | exact int_wsucc hj2.out
                  · first | exact meas_1 hj | exact meas_w hj hj2.out
              · have hTe : ((T : Int) == (i : Int)) = false := by simpa using hTi
                have hTd : decide ((T : Int) = (i : Int)) = false := decide_eq_false hTi
                rw [hTd] at hsnH
                clear hTi hTd
                have hst : Hid (okF R i (l.take (j + 1)) = z) := by show _ = _; rw [hsnH.out]; simp
                clear hsnH
                go_wp2
                refine ⟨⟨j + 1, ?_, by rw [hst.out], hj, hbA.out⟩, ?_⟩
                · first | exact int_succ j | exact int_wsucc hj2.out
                · first | exact meas_1 hj | exact meas_w hj hj2.out
            · have hji : ¬ (j : Int) < (l.length : Int) := by omega
              have e : j = l.length := by omega
              subst e
              rw [List.take_length]
              have hfr := okF_fre (R := R) hgH.out hiH.out
              cases hz : okF R i l with
              | true =>
                have hG : Hid (Grd (eB l) n (R ++ [i])) := .snoc hgrdH.out (hfr.1 hz) hnofH.out
                clear hfr hz
                have hownj := row_below hownH.out hbj
                have hdj := row_below hdoneH.out hbj
                have hszj := hbj.size
                have hgj : Hid (gb + 1 ≤ wj.heap.size) := Nat.le_trans hgs.out hszj
                have hkb : Hid (k ≤ 60) := by have := hnH.out; have := hkH.out; show _ ≤ _; omega
                have hd2 := owns_frz hdj i
                have hbB : Hid (Below gb w wj) := hblH.out.trans (hbj.mono (Nat.le_of_lt hgs.out))
                go_wp2_with (first
                  | (at_builtin; obtain ⟨i0, hi9, hz0, hz1, hz2⟩ := info_parts info_int; refine wpList_append_own _ rfl _ _ 23 rfl (gb + 1) 3 i0 (.int .i64 0) 1 8 Tryd.underlying23 hi9 hz0 hz1 hz2 rfl (by decide) _ _ _ rfl (hownj.alloc _) ⟨wj.heap.size, 0, none⟩ 1 1 [.int .i64 (i : Int)] rfl rfl (cells_new _ _ _) (fun v hv => by simp at hv; subst hv; rfl) (by unfold maxLen; have := hkb.out; omega) (by have := hkb.out; omega) (by have := hgj.out; simp; omega) ?_; intro v' w5 hown5 hgrow5 hnil5; clear hi9 hz0 hz1 hz2 hnil5; obtain ⟨g5, cap5, rfl⟩ := form_succ hown5; have hgA : (wj.alloc (.cells #[.int .i64 (i : Int)] 3)).grownBy w5 (Value.ownBlock (.slice p k c)) := hgrow5; have hB5 : Below (gb + 1) wj w5 := below_app (Below.refl _ _) hownj hgA (Nat.le_refl _) hgj.out; have hd5 := row_keep hdj hB5; have x5 : w5.cell? ⟨gb, i, none⟩ = some (.bool (decide (i ∈ R))) := (by rw [hd5.cellAt i (by have := hiH.out; omega), bls_get hiH.out]); have f5 := owns_frz hd5 i)
                  | go_in)
                have hRl : (R ++ [i]).length = k + 1 := by simp [hRkH.out]
                refine ⟨⟨R ++ [i], k + 1, some ⟨g5, 0, none⟩, cap5, ?_, rfl, hkH.out, hRl, hG.out, ?_, ?_, ?_⟩, ?_⟩
                · first | exact int_succ k | exact int_wsucc hk2.out
                · refine owns_set_other ?_ _ _ (fun g hg => ?_)
                  · simp only [ints, List.map_append, List.map_cons, List.map_nil]
                    exact hown5
                  · have := (hown5.lt g hg).1
                    show g ≠ gb
                    omega
                · rw [← bls_mem, ← bls_set hiH.out]
                  exact owns_store hd5 _
                · exact (hbB.out.trans (hB5.mono (Nat.le_succ gb))).setCell (Nat.le_refl gb) _
                · first | exact meas_1 hk | exact meas_w hk hk2.out
              | false =>
                have hnf : Hid (∀ d, d < i + 1 → ¬ Fre (eB l) n R d) := fun d hd => by
                  by_cases e : d = i
                  · subst e; intro h2; rw [hfr.2 h2] at hz; cases hz
                  · exact hnofH.out d (by omega)
                clear hfr hz
                go_wp2
                refine ⟨⟨i + 1, ?_, rfl, hiH.out, hnf.out, hbj⟩, ?_⟩
                · first | exact int_succ i | exact int_wsucc hi2.out
                · first | exact meas_1 hi | exact meas_w hi hi2.out
        · have e : i = n := by omega
          subst e
          exact absurd (some_free hgH.out hacH.out (by have := hRkH.out; have := hkH.out; omega) hnofH.out) id
    · have hki : ¬ (k : Int) < (n : Int) := by omega
      have e : k = n := by omega
      subst e
      clear hE
      go_wp2
      go_ret
      rw [hgbH.out]
      exact ⟨R, p, c, rfl, ⟨owns_base' hownH.out (Nat.le_succ gb), hRkH.out, hgrdH.out⟩, hblH.out⟩
end Go.Proofs.YtncjnmlgkhngaaaDoor
