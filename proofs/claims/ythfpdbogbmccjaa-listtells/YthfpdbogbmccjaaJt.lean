/- Package list: sums: what each set of jobs takes on one hand. -/
import Derived.Test.YthfpdbogbmccjaaJg
import Derived.OwnWalk
import Derived.Deep.LoopGhost
namespace Go.Proofs.Ythfpdbogbmccjaa
open Go.RowKit
set_option linter.unusedSectionVars false
set_option linter.unusedVariables false

/-- 'make([]int64, 1, n)' -/
theorem wpList_make_one {w : World} {ops : Array Oper} {rest : List Oper} {o : Oper} {a : Act} {Q : Exit → Act → World → Prop} (hg : o.guard = none) (l c : Operand) (hop : o.op = Op.makeSlice 22 l c)
    (kl kc : IntKind) (n : Nat) (hl : a.eval l = .int kl 1) (hc : a.eval c = .int kc (n : Int)) (h1 : 1 ≤ n) (hn : n ≤ 100000)
    (hK : ∀ w', w'.ownsRow w.heap.size 2 1 (.slice (some ⟨w.heap.size, 0, none⟩) 1 n) 1 [.int .i64 0] → w.grownBy w' none → wpList Try.prog ops Q rest (a.put o.dst (.slice (some ⟨w.heap.size, 0, none⟩) 1 n)) w') :
    wpList Try.prog ops Q (o :: rest) a w := by
  obtain ⟨i0, hi, hz0, hz1, hz2⟩ := info_parts info_i64
  refine wpList_plain hg fun K hK' => ?_
  have hrun := run_make (P := Try.prog) w 22 2 i0 (.int .i64 0) Try.underlying22 hi hz0 kl kc 1 (n : Int) (by omega) (by omega) (by rw [hz2]; omega) (by omega)
  simp only [Int.toNat_natCast, show (1 : Int).toNat = 1 from rfl] at hrun
  unfold Oper.wp
  simp [execOp, hop, hl, hc, hrun, Result.andThen]
  refine hK' _ _ (hK _ ⟨rfl, Or.inr ⟨w.heap.size, n, _, rfl, Nat.le_refl _, heap_alloc_new w _, h1, by unfold maxLen; omega, by rw [size_madeCells, hz1], ?_⟩⟩ (World.grownBy_alloc w _ none))
  have e : (madeCells (Value.int .i64 0).cells (n * i0.size)).toList = List.replicate n (.int .i64 0) := by
    rw [hz1, Nat.mul_one]
    exact toList_madeCells_one _ _
  rw [e, List.take_replicate]
  simp [Nat.min_eq_left h1]

theorem aln_top {l : List Int} {i j : Nat} (hj : j < l.length) (hi : i < 2 ^ j) : aln l (2 ^ j + i) = aln l i + nm l j := by
  have hb : ∀ k, (2 ^ j + i).testBit k = if k = j then true else i.testBit k := fun k => by
    by_cases e : k = j
    · subst e
      rw [if_pos rfl, Nat.testBit_two_pow_add_eq, Nat.testBit_lt_two_pow hi]
      rfl
    · rw [if_neg e]
      by_cases h2 : k < j
      · exact Nat.testBit_two_pow_add_gt h2 i
      · have h3 : 2 ^ (j + 1) ≤ 2 ^ k := Nat.pow_le_pow_right (by omega) (by omega)
        rw [Nat.pow_succ] at h3
        rw [Nat.testBit_lt_two_pow (show 2 ^ j + i < 2 ^ k by omega), Nat.testBit_lt_two_pow (show i < 2 ^ k by omega)]
  have e1 : aln l (2 ^ j + i) = sumF (fp (fun k => if i.testBit k = true then nm l k else 0) j (nm l j)) l.length := sumF_congr fun k _ => by
    rw [hb k]
    by_cases e : k = j
    · subst e; rw [fp_same, if_pos rfl, if_pos rfl]
    · rw [if_neg e, fp_ne e]
  rw [e1, sumF_fp _ _ _ hj]
  simp only [Nat.testBit_lt_two_pow hi]
  show aln l i - (if false = true then nm l j else 0) + nm l j = _
  rw [if_neg (by decide)]
  omega
theorem aln_bnd {l : List Int} (hl : ∀ x ∈ l, 0 ≤ x ∧ x ≤ 1000000000) (S : Nat) : 0 ≤ aln l S ∧ aln l S ≤ (l.length : Int) * 1000000000 := by
  refine ⟨aln_nonneg (fun x hx => (hl x hx).1) S, sumF_le fun i hi => ?_⟩
  have := hl _ (nm_mem hi)
  show (if _ then nm l i else 0) ≤ _
  split <;> omega

set_option maxHeartbeats 2000000 in
set_option maxRecDepth 100000 in
theorem sums_any {w : World} {q : Option Addr} {l : List Int} {c n : Nat} (h : Nums w q l) (hn : l.length = n) (hn9 : n ≤ 9) (hl : ∀ x ∈ l, 0 ≤ x ∧ x ≤ 1000000000) :
    Calls Try.prog 29 #[.slice q n c] w fun e w' => e = .returned (.slice (some ⟨w.heap.size, 0, none⟩) (2 ^ n) (2 ^ n)) ∧ w'.ownsRow w.heap.size 2 1 (.slice (some ⟨w.heap.size, 0, none⟩) (2 ^ n) (2 ^ n)) (2 ^ n) (numf (aln l) (2 ^ n)) ∧ Below w.heap.size w w' := by
  have hNH : Hid (∀ w1, Below w.heap.size w w1 → Nums w1 q l) := fun w1 hb => h.below hb (Nat.le_refl _)
  have hlH : Hid (∀ x ∈ l, 0 ≤ x ∧ x ≤ 1000000000) := hl
  have hnH : Hid (l.length = n ∧ n ≤ 9) := ⟨hn, hn9⟩
  have hn0 : ¬ (n : Int) < 0 := by omega
  have hn64 : (n : Int) < 64 := by omega
  clear h hl hn hn9
  obtain ⟨T, hT⟩ : ∃ T, T = 2 ^ n := ⟨_, rfl⟩
  have hT5 : 1 ≤ T ∧ T ≤ 512 := by
    have h1 := Nat.pow_le_pow_right (n := 2) (by omega) hnH.out.2
    have h2 := Nat.two_pow_pos n
    rw [hT]
    omega
  have hTH : Hid (T = 2 ^ n ∧ 1 ≤ T ∧ T ≤ 512) := ⟨hT, hT5⟩
  have hTw : wrap64 (2 ^ n) = (T : Int) := by
    have : ((2 : Int) ^ n) = ((2 ^ n : Nat) : Int) := by simp
    rw [this, ← hT]
    unfold wrap64
    omega
  rw [← hT]
  clear hT hT5
  go_enter Try.func29, Try.ntmps29
  go_wp2_with (first
    | (at_make; simp only [hTw]; refine wpList_make_one rfl _ _ rfl _ _ T rfl rfl hTH.out.2.1 (by have := hTH.out; omega) ?_; intro w2 hown2 hgrow2)
    | fail)
  have hat2 : w2.ownsRow w.heap.size 2 1 (.slice (some ⟨w.heap.size, 0, none⟩) (2 ^ 0) T) (2 ^ 0) (numf (aln l) (2 ^ 0)) := by
    have e : numf (aln l) (2 ^ 0) = [.int .i64 0] := by
      show [Value.int .i64 (aln l 0)] = _
      rw [aln_zero]
    rw [e]; exact hown2
  have hB2 : Below w.heap.size w w2 := ⟨hgrow2.os, hgrow2.tape, hgrow2.output, hgrow2.size, fun k hk => hgrow2.block k (by omega) (by simp)⟩
  clear hown2 hgrow2 hTw
  obtain ⟨gb, hgb⟩ : ∃ gb, gb = w.heap.size := ⟨_, rfl⟩
  have hgbH : Hid (gb = w.heap.size) := hgb
  rw [← hgb] at hat2 hB2 hNH ⊢
  have hat2H : Hid _ := hat2
  have hB2H : Hid (Below gb w w2) := hB2
  clear hgb hat2 hB2
  go_loopg [3, 14] n (fun gz ov jv wr => ∃ (j : Nat), jv = .int .i64 j ∧ ov = .slice (some ⟨gb, 0, none⟩) (2 ^ j) T ∧ n - j ≤ gz ∧ Hid (j ≤ n) ∧ Hid (wr.ownsRow gb 2 1 (.slice (some ⟨gb, 0, none⟩) (2 ^ j) T) (2 ^ j) (numf (aln l) (2 ^ j))) ∧ Hid (Below gb w wr))
  case atStart => exact ⟨0, rfl, rfl, by omega, Nat.zero_le _, hat2H, hB2H⟩
  case round =>
    clear hat2H hB2H
    obtain ⟨j, rfl, rfl, hgz, hj, hrow, hbl⟩ := hrel
    by_cases hjn : j < n
    · have hjz : (j : Int) < (n : Int) := by omega
      have hjH : Hid (j < n) := hjn
      obtain ⟨b1, o1, rfl, hA1⟩ := (hNH.out wr hbl.out).resolve_left (by have := hnH.out; omega)
      have z1 := hA1.c j (by have := hnH.out; omega)
      have hx := hlH.out _ (nm_mem (show j < l.length by have := hnH.out; omega))
      obtain ⟨M, hM⟩ : ∃ M, M = 2 ^ j := ⟨_, rfl⟩
      have hMT : Hid (M + M ≤ T ∧ 1 ≤ M) := by
        have h1 := Nat.pow_le_pow_right (n := 2) (by omega) (show j + 1 ≤ n by omega)
        have h2 := Nat.two_pow_pos j
        rw [Nat.pow_succ, ← hTH.out.1, ← hM] at h1
        rw [← hM] at h2
        show _ ∧ _
        omega
      have hMH : Hid (M = 2 ^ j) := hM
      rw [← hM] at hrow ⊢
      obtain ⟨x, hxe⟩ : ∃ x, x = nm l j := ⟨_, rfl⟩
      rw [← hxe] at z1 hx
      have hxH : Hid (x = nm l j ∧ 0 ≤ x ∧ x ≤ 1000000000) := ⟨hxe, hx⟩
      clear hA1 hM hxe hx hjn
      go_wp2
      clear z1
      go_loopg [3, 20] M (fun gz2 ov iv wq => ∃ (i : Nat), iv = .int .i64 i ∧ ov = .slice (some ⟨gb, 0, none⟩) (M + i) T ∧ M - i ≤ gz2 ∧ Hid (i ≤ M) ∧ Hid (wq.ownsRow gb 2 1 (.slice (some ⟨gb, 0, none⟩) (M + i) T) (M + i) (numf (aln l) (M + i))) ∧ Hid (Below gb w wq))
      case atStart => exact ⟨0, rfl, rfl, by omega, Nat.zero_le _, hrow, hbl⟩
      case round =>
        rename World => wq
        obtain ⟨i, rfl, rfl, hgz2, hi, hrow2, hbq⟩ := hrel
        by_cases hiM : i < M
        · have hiz : (i : Int) < (M : Int) := by omega
          have hiH : Hid (i < M) := hiM
          have hMT2 := hMT.out
          have hTT := hTH.out
          have hi5 : Hid (i ≤ 100000) := by show _ ≤ _; omega
          have y1 : wq.cell? ⟨gb, i, none⟩ = some (.int .i64 (aln l i)) := by rw [hrow2.out.cellAt i (by omega), numf_get (by omega)]
          have htop : Hid (aln l (M + i) = aln l i + x) := by
            show _ = _
            rw [hMH.out, hxH.out.1]
            exact aln_top (by have := hnH.out; have := hjH.out; omega) (by rw [← hMH.out]; exact hiM)
          have hab := aln_bnd hlH.out i
          have hwx : Hid (wrap64 (aln l i + x) = aln l i + x) := by
            have h2 := hxH.out
            have h3 := hnH.out
            show _ = _
            unfold wrap64
            omega
          have hown := hrow2.out
          have hbq0 := hbq.out
          have hfit : M + i + 1 ≤ T := by omega
          generalize aln l i = S at *
          clear hMT2 hTT hab hiM
          go_wp2_with (first
            | (at_builtin; obtain ⟨i0, hi9, hz0, hz1, hz2⟩ := info_parts info_i64; refine wpList_append_fits _ rfl _ _ 22 rfl gb 2 i0 1 Try.underlying22 hi9 hz1 gb (M + i) T _ rfl (hown.alloc _) ⟨wq.heap.size, 0, none⟩ 1 1 [.int .i64 (wrap64 (S + x))] rfl rfl (cells_new _ _ _) (fun v hv => by simp at hv; subst hv; rfl) hfit ?_; intro w6 hown6 hgrow6; clear hi9 hz0 hz1 hz2)
            | fail)
          have hrow6 : Hid (w6.ownsRow gb 2 1 (.slice (some ⟨gb, 0, none⟩) (M + (i + 1)) T) (M + (i + 1)) (numf (aln l) (M + (i + 1)))) := by
            show w6.ownsRow gb 2 1 (.slice (some ⟨gb, 0, none⟩) (M + i + 1) T) (M + i + 1) (numf (aln l) (M + i + 1))
            rw [numf_snoc, htop.out, ← hwx.out]
            exact hown6
          have hbq6 : Hid (Below gb w w6) := by
            have hgA : (wq.alloc (.cells #[.int .i64 (wrap64 (S + x))] 2)).grownBy w6 (some gb) := hgrow6
            have h9 := hgbH.out
            have h8 := hbq0.size
            refine ⟨hgA.os.trans hbq0.os, hgA.tape.trans hbq0.tape, hgA.output.trans hbq0.output, ?_, fun k hk => ?_⟩
            · have h1 := hgA.size
              simp at h1
              omega
            · rw [hgA.block k (by simp; omega) (fun e => by cases e; omega), Below.heap_alloc _ _ _ (by omega), hbq0.block k hk]
          go_roundg (M - (i + 1))
          case measure => have := hiH.out; omega
          case rel => exact ⟨i + 1, by first | exact int_wsucc hi5.out | exact int_succ i, rfl, Nat.le_refl _, hiH.out, hrow6, hbq6⟩
        · have hiz : ¬ (i : Int) < (M : Int) := by omega
          have e : i = M := by have := hi.out; omega
          subst e
          have hj5 : Hid (j ≤ 100000) := by have := hnH.out; have := hjH.out; show _ ≤ _; omega
          have hd : Hid (i + i = 2 ^ (j + 1)) := by show _ = _; rw [Nat.pow_succ, ← hMH.out]; omega
          have hrow6 : Hid (wq.ownsRow gb 2 1 (.slice (some ⟨gb, 0, none⟩) (2 ^ (j + 1)) T) (2 ^ (j + 1)) (numf (aln l) (2 ^ (j + 1)))) := by
            show wq.ownsRow gb 2 1 _ _ _
            rw [← hd.out]; exact hrow2.out
          clear hgz2
          go_wp2
          go_roundg (n - (j + 1))
          case measure => have := hjH.out; omega
          case rel => exact ⟨j + 1, by first | exact int_wsucc hj5.out | exact int_succ j, by rw [hd.out], Nat.le_refl _, hjH.out, hrow6, hbq⟩
    · have hjz : ¬ (j : Int) < (n : Int) := by omega
      have e : j = n := by have := hj.out; omega
      subst e
      have hT9 := hTH.out.1
      have hrowH : Hid (wr.ownsRow gb 2 1 (.slice (some ⟨gb, 0, none⟩) T T) T (numf (aln l) T)) := by
        show wr.ownsRow gb 2 1 _ _ _
        rw [hT9]
        have h2 := hrow.out
        rwa [hT9] at h2
      rw [← hT9]
      clear hT9 hrow
      go_wp2
      go_ret
      rw [← hgbH.out]
      exact ⟨rfl, hrowH.out, hbl.out⟩
end Go.Proofs.Ythfpdbogbmccjaa
