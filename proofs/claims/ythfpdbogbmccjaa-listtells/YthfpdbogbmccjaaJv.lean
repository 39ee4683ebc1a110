/- Package list: least: for each set of jobs the least span on so many hands. -/
import Derived.Test.YthfpdbogbmccjaaJu
namespace Go.Proofs.Ythfpdbogbmccjaa
open Go.RowKit
set_option linter.unusedSectionVars false
set_option linter.unusedVariables false

theorem wrap_pred {k : Nat} (h0 : 1 ≤ k) (h : k ≤ 100000) : wrap64 ((k : Int) - 1) = ((k - 1 : Nat) : Int) := by unfold wrap64; omega

set_option maxHeartbeats 4000000 in
set_option maxRecDepth 100000 in
theorem least_any {w : World} {l : List Int} {B ga m n T : Nat} (hal : w.ownsRow B 2 1 (.slice (some ⟨ga, 0, none⟩) T T) T (numf (aln l) T)) (hn : l.length = n) (hn9 : n ≤ 9) (hT : T = 2 ^ n) (hm : 1 ≤ m ∧ m ≤ 20) (hl : ∀ x ∈ l, 0 ≤ x ∧ x ≤ 1000000000) :
    Calls Try.prog 28 #[.int .i64 (m : Int), .slice (some ⟨ga, 0, none⟩) T T] w fun e w' => (∃ v, e = .returned (.int .i64 v) ∧ Bst l m (T - 1) v) ∧ Below w.heap.size w w' := by
  have hT5 : 1 ≤ T ∧ T ≤ 512 := by
    have h1 := Nat.pow_le_pow_right (n := 2) (by omega) hn9
    have h2 := Nat.two_pow_pos n
    omega
  have hTH : Hid (T = 2 ^ l.length ∧ 1 ≤ T ∧ T ≤ 512) := ⟨by rw [hn]; exact hT, hT5⟩
  have hlH : Hid (∀ x ∈ l, 0 ≤ x ∧ x ≤ 1000000000) := hl
  have hl0H : Hid (∀ x ∈ l, 0 ≤ x) := fun x hx => (hl x hx).1
  have hn9H : Hid (l.length ≤ 9) := by rw [hn]; exact hn9
  have hmH : Hid (1 ≤ m ∧ m ≤ 20) := hm
  have hga : ga < w.heap.size := (hal.lt ga rfl).2
  have hac : Hid (∀ wr, Below w.heap.size w wr → ∀ S, S < T → wr.cell? ⟨ga, S, none⟩ = some (.int .i64 (aln l S))) := fun wr hb S hS => (hb.cell (p := ⟨ga, S, none⟩) hga).trans (by rw [hal.cellAt S (by omega), numf_get hS])
  have hcl := clone_any hal (by omega)
  have hmw : wrap64 ((m : Int) - 1) = ((m - 1 : Nat) : Int) := wrap_pred hm.1 (by omega)
  have hmwH : Hid (wrap64 ((m : Int) - 1) = ((m - 1 : Nat) : Int)) := hmw
  clear hal hn hn9 hT hT5 hl hm hga hmw
  go_enter Try.func28, Try.ntmps28
  go_wp2_with (first
    | (go_at_call 41; refine hcl.mono ?_; rintro e w2 ⟨p2, c2, rfl, hr2, hb2⟩; clear hcl)
    | fail)
  obtain ⟨g0, hg0⟩ : ∃ g0, g0 = w.heap.size := ⟨_, rfl⟩
  have hg0H : Hid (g0 = w.heap.size) := hg0
  rw [← hg0] at hr2 hb2 hac
  clear hg0
  obtain ⟨gc, rfl, _, hgc⟩ := row_num hr2 (k := 0) (by have := hTH.out; omega)
  have hgcH : Hid (g0 ≤ gc) := hgc
  have hr2H : Hid (w2.ownsRow g0 2 1 (.slice (some ⟨gc, 0, none⟩) T c2) T (numf (aln l) T)) := hr2
  have hb2H : Hid (Below g0 w w2) := hb2
  have hst1 : Hid (∀ S, S < T → Bst l (0 + 1) S (aln l S)) := fun S _ => Bst.one hlH.out hn9H.out S
  clear hr2 hb2 hgc
  rw [hmwH.out]
  go_loopg [12] (m - 1) (fun gz kv wr => ∃ (k : Nat) (E : Nat → Int), kv = .int .i64 k ∧ m - 1 - k ≤ gz ∧ Hid (k ≤ m - 1) ∧ Hid (∀ S, S < T → Bst l (k + 1) S (E S)) ∧ Hid (wr.ownsRow g0 2 1 (.slice (some ⟨gc, 0, none⟩) T c2) T (numf E T)) ∧ Hid (Below g0 w wr))
  case atStart => exact ⟨0, _, rfl, by omega, Nat.zero_le _, hst1, hr2H, hb2H⟩
  case round =>
    clear hst1 hr2H hb2H
    obtain ⟨k, E0, rfl, hgz, hk, hE, hrow, hbl⟩ := hrel
    by_cases hkm : k < m - 1
    · have hkz : (k : Int) < ((m - 1 : Nat) : Int) := by omega
      have hkH : Hid (k < m - 1) := hkm
      have hT1 : wrap64 ((T : Int) - 1) = ((T - 1 : Nat) : Int) := wrap_pred hTH.out.2.1 (by have := hTH.out; omega)
      clear hkm
      go_wp2
      rw [hT1]
      clear hT1 hkz
      go_loopg [6] (T - 1) (fun gz2 sv wq => ∃ (S : Nat) (E : Nat → Int), sv = .int .i64 S ∧ S ≤ gz2 ∧ Hid (S < T) ∧ Hid (∀ q, q < T → if S < q then Bst l (k + 1 + 1) q (E q) else Bst l (k + 1) q (E q)) ∧ Hid (wq.ownsRow g0 2 1 (.slice (some ⟨gc, 0, none⟩) T c2) T (numf E T)) ∧ Hid (Below g0 w wq))
      case atStart => exact ⟨T - 1, E0, rfl, Nat.le_refl _, by have := hTH.out; show _ < _; omega, fun q hq => by rw [if_neg (by omega)]; exact hE.out q hq, hrow, hbl⟩
      case round =>
        rename World => wq
        obtain ⟨S, E, rfl, hgz2, hS, hE2, hrow2, hbq⟩ := hrel
        by_cases hS0 : 0 < S
        · have hSz : (0 : Int) < (S : Int) := by omega
          have hS0H : Hid (0 < S) := hS0
          have hb0 : Hid (Bin l (k + 1) S S E (E S)) := Bin.start hl0H.out (by omega) (by have := hE2.out S hS.out; rwa [if_neg (by omega)] at this)
          have hlowH : Hid (∀ q, q ≤ S → Bst l (k + 1) q (E q)) := fun q hq => by have := hE2.out q (by have := hS.out; omega); rwa [if_neg (by omega)] at this
          have hrow0 : Hid (wq.ownsRow g0 2 1 (.slice (some ⟨gc, 0, none⟩) T c2) T (numf (fp E S (E S)) T)) := by
            have e : numf (fp E S (E S)) T = numf E T := numf_congr fun j _ => by by_cases e : j = S; subst e; rw [fp_same]; rw [fp_ne e]
            show wq.ownsRow g0 2 1 _ _ _
            rw [e]; exact hrow2.out
          go_wp2
          clear hSz
          go_loopg [7] S (fun gz3 pv wx => ∃ (p : Nat) (v : Int), pv = .int .i64 p ∧ p ≤ gz3 ∧ Hid (Sub p S) ∧ Hid (Bin l (k + 1) S p E v) ∧ Hid (wx.ownsRow g0 2 1 (.slice (some ⟨gc, 0, none⟩) T c2) T (numf (fp E S v) T)) ∧ Hid (Below g0 w wx))
          case atStart => exact ⟨S, E S, rfl, Nat.le_refl _, sub_self S, hb0, hrow0, hbq⟩
          case round =>
            clear hb0 hrow0
            rename World => wx
            obtain ⟨p, v, rfl, hgz3, hp, hbin, hrow3, hbx⟩ := hrel
            by_cases hp0 : 0 < p
            · have hpz : (0 : Int) < (p : Int) := by omega
              have hpS := hp.out.le
              have hST := hS.out
              have hT9 := hTH.out
              obtain ⟨D, hD⟩ : ∃ D, D = S - p := ⟨_, rfl⟩
              have hwD : IntKind.i64.wrap ((S : Int) - (p : Int)) = (D : Int) := by rw [IntKind.wrap_i64]; omega
              have hED := hlowH.out D (by omega)
              have hstep : Hid (Bin l (k + 1) S ((p - 1) &&& S) E (min v (max (aln l p) (E D)))) := by
                rw [hD] at hED ⊢
                exact hbin.out.step (by rw [← hT9.1]; exact hST) hp.out (by omega) hED (aln_nonneg hl0H.out p)
              have y1 : wx.cell? ⟨gc, S, none⟩ = some (.int .i64 v) := by rw [hrow3.out.cellAt S (by omega), numf_get hST, fp_same]
              have y2 : wx.cell? ⟨ga, p, none⟩ = some (.int .i64 (aln l p)) := hac.out wx hbx.out p (by omega)
              have y3 : wx.cell? ⟨gc, D, none⟩ = some (.int .i64 (E D)) := by rw [hrow3.out.cellAt D (by omega), numf_get (by omega), fp_ne (by omega)]
              have f1 := owns_frz hrow3.out S
              have iz1 : (S : Int) < (T : Int) := by omega
              have iz2 : (p : Int) < (T : Int) := by omega
              have iz3 : (D : Int) < (T : Int) := by omega
              have jz1 : ¬ (S : Int) < 0 := by omega
              have jz2 : ¬ (p : Int) < 0 := by omega
              have jz3 : ¬ (D : Int) < 0 := by omega
              have hltH : Hid ((p - 1) &&& S < p) := by
                have h1 : (p - 1) &&& S ≤ p - 1 := Nat.and_le_left
                show _ < _
                omega
              have handH : Hid (bits BinOp.and IntKind.i64 (wrap64 ((p : Int) - 1)) (S : Int) = (((p - 1) &&& S : Nat) : Int)) := by
                show _ = _
                rw [wrap_pred (by omega) (by omega)]
                exact and_i64 _ _ (by omega) (by omega)
              have hp0H : Hid (0 < p) := hp0
              have mixed := stMixedK
              generalize aln l p = a at *
              generalize E D = b at *
              clear hpS hST hT9 hD hED hp0
              go_wp2_with fail
              go_big_region_o
              obtain ⟨v2, hv2⟩ : ∃ v2, v2 = (if (if a < b then b else a) < v then if a < b then b else a else v) := ⟨_, rfl⟩
              have hv2e : v2 = min v (max a b) := by rw [hv2]; split <;> split <;> omega
              have hstep2 : Hid (Bin l (k + 1) S ((p - 1) &&& S) E v2) := by rw [hv2e]; exact hstep.out
              have hrow4 : Hid (((wx.setCell ⟨gc, S, none⟩ (.int .i64 v2)).drew).ownsRow g0 2 1 (.slice (some ⟨gc, 0, none⟩) T c2) T (numf (fp E S v2) T)) := by
                have h2 := owns_store hrow3.out (j := S) (.int .i64 v2)
                rw [numf_set] at h2
                have e : numf (fp (fp E S v) S v2) T = numf (fp E S v2) T := numf_congr fun j _ => by
                  by_cases e : j = S
                  · subst e; rw [fp_same, fp_same]
                  · rw [fp_ne e, fp_ne e, fp_ne e]
                rw [e] at h2
                exact h2
              have hbl4 : Hid (Below g0 w ((wx.setCell ⟨gc, S, none⟩ (.int .i64 v2)).drew)) := (hbx.out.setCell hgcH.out _).drew
              rw [← hv2]
              clear hv2 hv2e hstep y1 y2 y3 f1 hwD iz1 iz2 iz3 jz1 jz2 jz3
              generalize (wx.setCell ⟨gc, S, none⟩ (.int .i64 v2)).drew = w8 at *
              generalize (if a < b then b else a) = mx
              go_wp2
              go_roundg ((p - 1) &&& S)
              case measure => have := hltH.out; omega
              case rel => exact ⟨(p - 1) &&& S, v2, congrArg (Value.int .i64) handH.out, Nat.le_refl _, sub_and _ _, hstep2, hrow4, hbl4⟩
            · have hpz : ¬ (0 : Int) < (p : Int) := by omega
              have e : p = 0 := by omega
              subst e
              have hS5 : Hid (wrap64 ((S : Int) - 1) = ((S - 1 : Nat) : Int)) := wrap_pred hS0H.out (by have := hTH.out; have := hS.out; omega)
              have hnew : Hid (∀ q, q < T → if S - 1 < q then Bst l (k + 1 + 1) q (fp E S v q) else Bst l (k + 1) q (fp E S v q)) := fun q hq => by
                have hd := hbin.out.done (by rw [← hTH.out.1]; exact hS.out) (by omega) hlowH.out
                have h0 := hS0H.out
                by_cases e : q = S
                · subst e; rw [fp_same, if_pos (by omega)]; exact hd
                · rw [fp_ne e]
                  have := hE2.out q hq
                  by_cases e2 : S < q
                  · rw [if_pos e2] at this; rw [if_pos (by omega)]; exact this
                  · rw [if_neg e2] at this; rw [if_neg (by omega)]; exact this
              clear hgz3 hbin
              go_wp2
              go_roundg (S - 1)
              case measure => have := hS0H.out; omega
              case rel => exact ⟨S - 1, fp E S v, congrArg (Value.int .i64) hS5.out, Nat.le_refl _, by have := hS.out; show _ < _; omega, hnew, hrow3, hbx⟩
        · have hSz : ¬ (0 : Int) < (S : Int) := by omega
          have e : S = 0 := by omega
          subst e
          have hk5 : Hid (k ≤ 100000) := by have := hmH.out; have := hkH.out; show _ ≤ _; omega
          have hnew : Hid (∀ q, q < T → Bst l (k + 1 + 1) q (E q)) := fun q hq => by
            have := hE2.out q hq
            by_cases e2 : 0 < q
            · rwa [if_pos e2] at this
            · rw [if_neg e2] at this
              have e : q = 0 := by omega
              subst e
              exact this.zero hl0H.out (by omega)
          clear hgz2 hE2
          go_wp2
          go_roundg (m - 1 - (k + 1))
          case measure => have := hkH.out; omega
          case rel => exact ⟨k + 1, E, by first | exact int_wsucc hk5.out | exact int_succ k, Nat.le_refl _, hkH.out, hnew, hrow2, hbq⟩
    · have hkz : ¬ (k : Int) < ((m - 1 : Nat) : Int) := by omega
      have e : k + 1 = m := by have := hk.out; have := hmH.out; omega
      have hT9 := hTH.out
      have hres : Hid (Bst l m (T - 1) (E0 (T - 1))) := by have := hE.out (T - 1) (by omega); rwa [e] at this
      have y1 : wr.cell? ⟨gc, T - 1, none⟩ = some (.int .i64 (E0 (T - 1))) := by rw [hrow.out.cellAt (T - 1) (by omega), numf_get (by omega)]
      have hTw9 : wrap64 ((T : Int) - 1) = ((T - 1 : Nat) : Int) := wrap_pred (by omega) (by omega)
      have hz : ((T - 1 : Nat) : Int) < (T : Int) := by omega
      have hz2 : ¬ ((T - 1 : Nat) : Int) < 0 := by omega
      clear hT9 e hE
      generalize E0 (T - 1) = v at *
      go_wp2_with (first
        | (simp only [hTw9])
        | fail)
      go_ret
      rw [← hg0H.out]
      exact ⟨⟨v, rfl, hres.out⟩, hbl.out⟩
end Go.Proofs.Ythfpdbogbmccjaa
