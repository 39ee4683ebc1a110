/- Package list: the work's method begin. -/
import Derived.Test.YthfpdbogbmccjaaDoorJwb
namespace Go.Proofs.YthfpdbogbmccjaaDoor
open Go.RowKit Gm Pm
set_option linter.unusedSectionVars false
set_option linter.unusedVariables false

/-- What begin tells and does. -/
def Bgn (g0 gp gA gE gF gT B : Nat) (pd : Option Addr) (cd n m : Nat) (l : List Ed) (d : List Int) (s : Wst) (t : Int) (e : Ending) (w' : World) : Prop :=
  (∃ i h, e = .returned (.bool true) ∧ i < n ∧ h < m ∧ s.F h ≤ t ∧ (∀ k, k < h → t < s.F k) ∧ rdy l t s i ∧ (∀ k, k < i → ¬ rdy l t s k) ∧ Wk w' g0 gp gA gE gF gT B pd cd n m l d (wbg (nm d) t s i h))
  ∨ (e = .returned (.bool false) ∧ stk n m l t s ∧ Wk w' g0 gp gA gE gF gT B pd cd n m l d s)

set_option maxHeartbeats 4000000 in
set_option maxRecDepth 100000 in
theorem begin_any {w : World} {g0 gp gA gE gF gT B : Nat} {pd : Option Addr} {cd n m : Nat} {l : List Ed} {d : List Int} {s : Wst} (hk : Wk w g0 gp gA gE gF gT B pd cd n m l d s) (hg : Gr n l) (hl : l.length ≤ 400) (hm : m ≤ 20) (hD : ∀ i, i < n → 0 ≤ nm d i ∧ nm d i ≤ 1000000000) (t : Int) (ht : 0 ≤ t ∧ t ≤ 1000000000000) :
    Calls Tryd.prog 27 #[.pointer (some ⟨gp, 0, none⟩), .int .i64 t] w fun e w' => Bgn g0 gp gA gE gF gT B pd cd n m l d s t e w' ∧ Below g0 w w' := by
  have hbA : Hid (Below w.heap.size w (w.alloc (.cells #[.int .i64 t] 2))) := (Below.refl _ _).alloc (Nat.le_refl _) _
  have hkA : Hid (Wk (w.alloc (.cells #[.int .i64 t] 2)) g0 gp gA gE gF gT B pd cd n m l d s) := hk.below hbA.out
  have kb : Hid ((w.alloc (.cells #[.int .i64 t] 2)).cell? ⟨w.heap.size, 0, none⟩ = some (.int .i64 t)) := alloc2 w _ _
  have hszH : Hid (w.heap.size < (w.alloc (.cells #[.int .i64 t] 2)).heap.size) := by show _ < _; simp
  have hgH : Hid (Gr n l) := hg
  have hlH : Hid (l.length ≤ 400) := hl
  have hnH : Hid (n ≤ 60) := hg.n60
  have hmH : Hid (m ≤ 20) := hm
  have hDH : Hid (∀ i, i < n → 0 ≤ nm d i ∧ nm d i ≤ 1000000000) := hD
  have htH : Hid (0 ≤ t ∧ t ≤ 1000000000000) := ht
  have hg0 : Hid (g0 ≤ w.heap.size) := by have h1 := hk.lt.1; have h2 := hk.lo.1; show _ ≤ _; omega
  have hgl : Hid (gE < w.heap.size ∧ gF < w.heap.size ∧ gT < w.heap.size ∧ g0 ≤ gE ∧ g0 ≤ gF ∧ g0 ≤ gT) := ⟨hk.lt.2.2.1, hk.lt.2.2.2.1, hk.lt.2.2.2.2, hk.lo.2.2.1, hk.lo.2.2.2.1, hk.lo.2.2.2.2.1⟩
  have c3 := hkA.out.c3
  have c0 := hkA.out.c0
  have hif : Hid (Calls Tryd.prog 33 #[.slice (some ⟨gF, 0, none⟩) (frl s.F m).length m, .func (.func 39) #[] #[.pointer (some ⟨w.heap.size, 0, none⟩)]] (w.alloc (.cells #[.int .i64 t] 2)) fun e w' => e = .returned (.int .i64 (fz (fun x => decide (x ≤ t)) (frl s.F m))) ∧ w' = w.alloc (.cells #[.int .i64 t] 2)) :=
    indexF_bgn _ _ (frl_nums hkA.out.F) (by rw [frl_len]; omega) fun x _ => bgn1_any x kb.out
  rw [frl_len] at hif
  have hcs := hand_cases s.F t m
  clear hk hg hl hm hD ht
  generalize hW : w.alloc (.cells #[.int .i64 t] 2) = W at *
  have hWH : Hid (W = w.alloc (.cells #[.int .i64 t] 2)) := hW.symm
  clear hW
  generalize hgb : w.heap.size = gb at *
  rcases hcs with ⟨hz, hall⟩ | ⟨h, hhm, hz, hFt, hleast⟩
  · have hst : Hid (stk n m l t s) := Or.inl hall
    rw [hz] at hif
    clear hz hall
    go_enter Tryd.func27, Tryd.ntmps27
    go_upto_region 1 with fail
    rw [← hWH.out]
    go_wp2_with (first
      | (go_at_call 33; refine hif.out.mono ?_; rintro e w' ⟨rfl, hw'⟩; have hw'' := hw'.symm; subst hw''; clear hif)
      | go_in)
    go_ret
    exact ⟨Or.inr ⟨rfl, hst.out, hkA.out⟩, hbA.out.mono hg0.out⟩
  · rw [hz] at hif
    have hlH2 : Hid (∀ k, k < h → t < s.F k) := hleast
    have hFH : Hid (s.F h ≤ t) := hFt
    have hhH : Hid (h < m) := hhm
    have hh0 : ¬ (h : Int) < 0 := by omega
    clear hz hleast hFt
    go_enter Tryd.func27, Tryd.ntmps27
    go_upto_region 1 with fail
    rw [← hWH.out]
    go_wp2_with (first
      | (go_at_call 33; refine hif.out.mono ?_; rintro e w' ⟨rfl, hw'⟩; have hw'' := hw'.symm; subst hw''; clear hif)
      | go_in)
    go_loopw [20] (fun iv wr => ∃ k : Nat, iv = .int .i64 k ∧ k ≤ n ∧ Hid (∀ i, i < k → rdB l t s i = false) ∧ Hid (Wk wr g0 gp gA gE gF gT B pd cd n m l d s) ∧ Hid (wr.cell? ⟨gb, 0, none⟩ = some (.int .i64 t)) ∧ Hid (Below gb w wr) ∧ Hid (gb < wr.heap.size))
      (fun iv _ => n - (intOf iv).toNat)
    case atStart => exact ⟨0, rfl, Nat.zero_le _, fun i hi => by omega, hkA, kb, hbA, hszH⟩
    case round =>
      clear c0 c3 hbA hkA kb hszH hWH
      obtain ⟨k, rfl, hkn, hnoH, hkH, kbH, hbH, hsH⟩ := hrel
      by_cases hk : k < n
      · have hki : (k : Int) < (n : Int) := by omega
        have hkk : Hid (k < n) := hk
        have hk2 : Hid (k ≤ 100000) := by have := hnH.out; show _ ≤ _; omega
        have hk0 : ¬ (k : Int) < 0 := by omega
        have hkg : ¬ (n : Int) ≤ (k : Int) := by omega
        have hrd := ready_any hkH.out hgH.out hlH.out t hk
        have kb0 := kbH.out
        cases hr : rdB l t s k with
        | false =>
          have hno2 : Hid (∀ i, i < k + 1 → rdB l t s i = false) := fun i hi => by
            by_cases e : i = k
            · rw [e]; exact hr
            · exact hnoH.out i (by omega)
          rw [hr] at hrd
          clear hr
          go_wp2_with (first
            | (go_at_call 40; refine hrd.mono ?_; rintro e w2 ⟨rfl, hb2⟩; have hb2H : Hid (Below wr.heap.size wr w2) := hb2; clear hrd hb2 kb0)
            | go_in)
          refine ⟨⟨k + 1, ?_, hkk.out, hno2, hkH.out.below hb2H.out, ?_, ?_, ?_⟩, ?_⟩
          · first | exact int_succ k | exact int_wsucc hk2.out
          · exact (hb2H.out.cell (p := ⟨gb, 0, none⟩) hsH.out).trans kbH.out
          · exact hbH.out.trans (hb2H.out.mono (Nat.le_of_lt hsH.out))
          · exact Nat.lt_of_lt_of_le hsH.out hb2H.out.size
          · first | exact meas_1 hkk.out | exact meas_w hkk.out hk2.out
        | true =>
          have hrdy : Hid (rdy l t s k) := (rdB_is hgH.out).1 hr
          have hleast2 : Hid (∀ i, i < k → ¬ rdy l t s i) := fun i hi hh => by
            have h1 := hnoH.out i hi
            rw [(rdB_is hgH.out).2 hh] at h1
            cases h1
          rw [hr] at hrd
          clear hr hnoH
          go_upto_region 8 with (first
            | (go_at_call 40; refine hrd.mono ?_; rintro e w2 ⟨rfl, hb2⟩; have hb2H : Hid (Below wr.heap.size wr w2) := hb2; clear hrd hb2 kb0)
            | go_in)
          have hkW : Hid (Wk w2 g0 gp gA gE gF gT B pd cd n m l d s) := hkH.out.below hb2H.out
          have hbW : Hid (Below gb w w2) := hbH.out.trans (hb2H.out.mono (Nat.le_of_lt hsH.out))
          have hsW : Hid (gb < w2.heap.size) := Nat.lt_of_lt_of_le hsH.out hb2H.out.size
          have kbW : Hid (w2.cell? ⟨gb, 0, none⟩ = some (.int .i64 t)) := (hb2H.out.cell (p := ⟨gb, 0, none⟩) hsH.out).trans kbH.out
          clear hkH kbH hbH hsH hb2H
          have k1 := kbW.out
          have c4 := hkW.out.c4
          obtain ⟨t1, t2, t3, t4⟩ := hkW.out.T k hkk.out
          have mixed := wMixedK
          go_big_region_o
          have hk8 : Hid (Wk (((w2.setCell ⟨gT, k * 2, none⟩ (.int .i64 t)).setCell ⟨gT, k * 2 + 1, none⟩ (.int .i64 (h : Int))).drew) g0 gp gA gE gF gT B pd cd n m l d ⟨s.E, s.F, fp s.A k t, fp s.H k (h : Int)⟩) := ((hkW.out.setA hkk.out t).setH hkk.out (h : Int)).drew
          have hb8 : Hid (Below g0 w (((w2.setCell ⟨gT, k * 2, none⟩ (.int .i64 t)).setCell ⟨gT, k * 2 + 1, none⟩ (.int .i64 (h : Int))).drew)) := (((hbW.out.mono hg0.out).setCell hgl.out.2.2.2.2.2 _).setCell hgl.out.2.2.2.2.2 _).drew
          have kb8 : Hid ((((w2.setCell ⟨gT, k * 2, none⟩ (.int .i64 t)).setCell ⟨gT, k * 2 + 1, none⟩ (.int .i64 (h : Int))).drew).cell? ⟨gb, 0, none⟩ = some (.int .i64 t)) := by
            have hne : gT ≠ gb := by have := hgl.out.2.2.1; omega
            exact (World.cell?_setCell_other _ _ _ _ (by intro e; simp only [Addr.mk.injEq] at e; exact hne e.1)).trans ((World.cell?_setCell_other _ _ _ _ (by intro e; simp only [Addr.mk.injEq] at e; exact hne e.1)).trans kbW.out)
          clear k1 c4 t1 t2 t3 t4 hkW hbW kbW hsW
          generalize ((w2.setCell ⟨gT, k * 2, none⟩ (.int .i64 t)).setCell ⟨gT, k * 2 + 1, none⟩ (.int .i64 (h : Int))).drew = w8 at *
          obtain ⟨b, o, rfl, hbl, d0⟩ := hk8.out.dn k hkk.out
          have k1 := kb8.out
          have c2 := hk8.out.c2
          have c0 := hk8.out.c0
          have e0 : w8.cell? ⟨gE, k, none⟩ = some (.int .i64 (s.E k)) := by rw [hk8.out.E.cellAt k (by have := hkk.out; omega), numf_get hkk.out]
          have e1 := owns_frz hk8.out.E k
          have hwx : IntKind.i64.wrap (t + nm d k) = t + nm d k := by rw [IntKind.wrap_i64]; have h1 := hDH.out k hkk.out; have h2 := htH.out; omega
          have hEfp : Hid (fp s.E k (t + nm d k) k = t + nm d k) := by show _ = _; rw [fp_same]
          clear hbl
          generalize hx : nm d k = x at *
          have hxH : Hid (nm d k = x) := hx
          clear hx
          go_upto_region 9 with fail
          go_big_region_o
          have hk9 : Hid (Wk ((w8.setCell ⟨gE, k, none⟩ (.int .i64 (t + x))).drew) g0 gp gA gE gF gT B (some ⟨b, o, none⟩) cd n m l d ⟨fp s.E k (t + x), s.F, fp s.A k t, fp s.H k (h : Int)⟩) := (hk8.out.setE k (t + x)).drew
          have hb9 : Hid (Below g0 w ((w8.setCell ⟨gE, k, none⟩ (.int .i64 (t + x))).drew)) := (hb8.out.setCell hgl.out.2.2.2.1 _).drew
          clear k1 c2 c0 e0 e1 d0 hk8 hb8 kb8
          generalize (w8.setCell ⟨gE, k, none⟩ (.int .i64 (t + x))).drew = w9 at *
          have c2 := hk9.out.c2
          have c3 := hk9.out.c3
          have e0 : w9.cell? ⟨gE, k, none⟩ = some (.int .i64 (t + x)) := by rw [hk9.out.E.cellAt k (by have := hkk.out; omega), numf_get hkk.out]; exact congrArg (fun z => some (Value.int .i64 z)) hEfp.out
          have f0 : w9.cell? ⟨gF, h, none⟩ = some (.int .i64 (s.F h)) := by rw [hk9.out.F.cellAt h (by have := hhH.out; omega), numf_get hhH.out]
          have f1 := owns_frz hk9.out.F h
          have hhi : (h : Int) < (m : Int) := by have := hhH.out; omega
          go_upto_region 10 with fail
          go_big_region_o
          have hk10 : Hid (Wk ((w9.setCell ⟨gF, h, none⟩ (.int .i64 (t + x))).drew) g0 gp gA gE gF gT B (some ⟨b, o, none⟩) cd n m l d ⟨fp s.E k (t + x), fp s.F h (t + x), fp s.A k t, fp s.H k (h : Int)⟩) := (hk9.out.setF h (t + x)).drew
          have hb10 : Hid (Below g0 w ((w9.setCell ⟨gF, h, none⟩ (.int .i64 (t + x))).drew)) := (hb9.out.setCell hgl.out.2.2.2.2.1 _).drew
          clear c2 c3 e0 f0 f1 hk9 hb9
          generalize (w9.setCell ⟨gF, h, none⟩ (.int .i64 (t + x))).drew = w10 at *
          go_wp2
          go_ret
          refine ⟨Or.inl ⟨k, h, rfl, hkk.out, hhH.out, hFH.out, hlH2.out, hrdy.out, hleast2.out, ?_⟩, hb10.out⟩
          have h2 := hk10.out
          rw [← hxH.out] at h2
          exact h2
      · have hki : ¬ (k : Int) < (n : Int) := by omega
        have e : k = n := by omega
        subst e
        have hst : Hid (stk k m l t s) := Or.inr fun i hi hh => by
          have h1 := hnoH.out i hi
          rw [(rdB_is hgH.out).2 hh] at h1
          cases h1
        clear hnoH
        go_wp2
        go_ret
        exact ⟨Or.inr ⟨rfl, hst.out, hkH.out⟩, hbH.out.mono hg0.out⟩
end Go.Proofs.YthfpdbogbmccjaaDoor
