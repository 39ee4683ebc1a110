/- The reference's GraphRun. -/
import Derived.Test.YthfpdbogbmccjaaDoorJrm
import Derived.Deep.CutBlock
namespace Go.Proofs.YthfpdbogbmccjaaDoor
open Go.RowKit Gm Pm
set_option linter.unusedSectionVars false
set_option linter.unusedVariables false

/-- Two cells a thing. -/
structure Rk (w : World) (g0 g n : Nat) (A H : Nat → Int) : Prop where
  lo : g0 ≤ g
  lt : g < w.heap.size
  c : ∀ i, i < n → w.cell? ⟨g, i * 2, none⟩ = some (.int .i64 (A i)) ∧ w.cell? ⟨g, i * 2 + 1, none⟩ = some (.int .i64 (H i)) ∧ w.frozen? ⟨g, i * 2, none⟩ = false ∧ w.frozen? ⟨g, i * 2 + 1, none⟩ = false
theorem Rk.below {w w' : World} {g0 g n : Nat} {A H : Nat → Int} (h : Rk w g0 g n A H) (hb : Below w.heap.size w w') : Rk w' g0 g n A H :=
  ⟨h.lo, Nat.lt_of_lt_of_le h.lt hb.size, fun i hi => by
    obtain ⟨t1, t2, t3, t4⟩ := h.c i hi
    have hbk := hb.block g h.lt
    exact ⟨(hb.cell (p := ⟨g, i * 2, none⟩) h.lt).trans t1, (hb.cell (p := ⟨g, i * 2 + 1, none⟩) h.lt).trans t2, (frozen_of_block hbk).trans t3, (frozen_of_block hbk).trans t4⟩⟩
theorem Rk.set {w : World} {g0 g n : Nat} {A H : Nat → Int} (h : Rk w g0 g n A H) {j : Nat} (hj : j < n) (x y : Int) : Rk ((w.setCell ⟨g, j * 2, none⟩ (.int .i64 x)).setCell ⟨g, j * 2 + 1, none⟩ (.int .i64 y)) g0 g n (fp A j x) (fp H j y) := by
  refine ⟨h.lo, by simpa using h.lt, fun i hi => ?_⟩
  obtain ⟨t1, t2, t3, t4⟩ := h.c i hi
  obtain ⟨s1, s2, _, _⟩ := h.c j hj
  refine ⟨?_, ?_, by simpa using t3, by simpa using t4⟩
  · rw [World.cell?_setCell_other _ _ _ _ (by intro e; simp only [Addr.mk.injEq] at e; omega)]
    by_cases e : i = j
    · subst e; rw [fp_same]; exact World.cell?_setCell_same _ _ _ t1
    · rw [fp_ne e, World.cell?_setCell_other _ _ _ _ (by intro e; simp only [Addr.mk.injEq] at e; omega)]; exact t1
  · by_cases e : i = j
    · subst e
      rw [fp_same]
      exact World.cell?_setCell_same _ _ _ ((World.cell?_setCell_other _ _ _ _ (by intro e; simp only [Addr.mk.injEq] at e; omega)).trans t2)
    · rw [fp_ne e, World.cell?_setCell_other _ _ _ _ (by intro e; simp only [Addr.mk.injEq] at e; omega), World.cell?_setCell_other _ _ _ _ (by intro e; simp only [Addr.mk.injEq] at e; omega)]; exact t2
theorem Rk.congr {w : World} {g0 g n : Nat} {A H A' H' : Nat → Int} (h : Rk w g0 g n A H) (hA : ∀ i, i < n → A i = A' i) (hH : ∀ i, i < n → H i = H' i) : Rk w g0 g n A' H' :=
  ⟨h.lo, h.lt, fun i hi => by rw [← hA i hi, ← hH i hi]; exact h.c i hi⟩
theorem Nums.at3 {w : World} {q : Option Addr} {d : List Int} (h : Nums w q d) {i : Nat} (hi : i < d.length) : ∃ b o, q = some ⟨b, o, none⟩ ∧ w.cell? ⟨b, o + i, none⟩ = some (.int .i64 (nm d i)) := by
  rcases h with h0 | ⟨b, o, e, hA⟩
  · omega
  · exact ⟨b, o, e, hA.c i hi⟩
/-- The latest end that has been seen. -/
def EnB (n : Nat) (s : Wst) (en : Int) : Prop := en = 0 ∨ ∃ i, i < n ∧ s.E i ≠ nvr ∧ en = s.E i
theorem bzF_skip {s : Wst} {t : Int} {k i : Nat} (h : bzF s t k i = true) : bzF s t k (i + 1) = true := by
  show (bzF s t k i || _) = true
  rw [h]; rfl
theorem bzF_yes {s : Wst} {t : Int} {k i : Nat} (h1 : s.E i ≠ nvr) (h2 : s.H i = (k : Int)) (h3 : t < s.E i) : bzF s t k (i + 1) = true := bzF_true.2 ⟨i, Nat.lt_succ_self i, h1, h2, h3⟩
theorem bzF_no {s : Wst} {t : Int} {k i : Nat} (h : bzF s t k i = false) (h1 : ¬ (s.E i ≠ nvr ∧ s.H i = (k : Int) ∧ t < s.E i)) : bzF s t k (i + 1) = false := by
  cases e : bzF s t k (i + 1)
  · rfl
  · obtain ⟨j, hj, h2⟩ := bzF_true.1 e
    by_cases ej : j = i
    · subst ej; exact absurd h2 h1
    · have := bzF_true.2 ⟨j, (by omega : j < i), h2⟩
      rw [h] at this; cases this
theorem aA_bgn {d : Nat → Int} {t : Int} {s : Wst} {i h : Nat} (hne : t + d i ≠ nvr) (j : Nat) : fp (aA s) i t j = aA (wbg d t s i h) j := by
  show _ = if fp s.E i (t + d i) j = nvr then -1 else fp s.A i t j
  by_cases e : j = i
  · subst e; rw [fp_same, fp_same, fp_same, if_neg hne]
  · rw [fp_ne e, fp_ne e, fp_ne e]; rfl
theorem aH_bgn {d : Nat → Int} {t : Int} {s : Wst} {i h : Nat} (hne : t + d i ≠ nvr) (j : Nat) : fp (aH s) i (h : Int) j = aH (wbg d t s i h) j := by
  show _ = if fp s.E i (t + d i) j = nvr then -1 else fp s.H i (h : Int) j
  by_cases e : j = i
  · subst e; rw [fp_same, fp_same, fp_same, if_neg hne]
  · rw [fp_ne e, fp_ne e, fp_ne e]; rfl
theorem EnB.bgn {n : Nat} {d : Nat → Int} {t en : Int} {s : Wst} {i h : Nat} (he : EnB n s en) (hE : s.E i = nvr) : EnB n (wbg d t s i h) en := by
  rcases he with e | ⟨j, hj, h1, h2⟩
  · exact Or.inl e
  · have hji : j ≠ i := fun z => h1 (by rw [z]; exact hE)
    refine Or.inr ⟨j, hj, ?_, ?_⟩
    · show fp s.E i (t + d i) j ≠ nvr
      rw [fp_ne hji]; exact h1
    · show en = fp s.E i (t + d i) j
      rw [fp_ne hji]; exact h2
theorem nxF_top (E : Nat → Int) (t : Int) : ∀ k : Nat, nxF E t k ≤ nvr
  | 0 => Int.le_refl _
  | k + 1 => by
    have := nxF_top E t k
    rw [nxF]
    split <;> omega
/-- When the first of those that are begun, and not yet ended, ends; -1, if there is none. -/
def nxR (s : Wst) (t : Int) (k : Nat) : Int := if nxF s.E t k = nvr then -1 else nxF s.E t k
theorem nxR_neg {s : Wst} {t : Int} {k : Nat} (ht : 0 ≤ t) : nxR s t k < 0 ↔ nxF s.E t k = nvr := by
  unfold nxR
  by_cases e : nxF s.E t k = nvr
  · rw [if_pos e]; exact ⟨fun _ => e, fun _ => by omega⟩
  · rw [if_neg e]
    rcases nxF_is s.E t k with h | ⟨i, _, h1, h2⟩
    · exact absurd h e
    · exact ⟨fun _ => by omega, fun h => absurd h e⟩
theorem nxR_skip {s : Wst} {t : Int} {k : Nat} (hE : s.E k = nvr ∨ ¬ t < s.E k) : nxR s t (k + 1) = nxR s t k := by
  have h0 := nxF_top s.E t k
  have : nxF s.E t (k + 1) = nxF s.E t k := by
    rw [nxF]
    by_cases e : t < s.E k
    · rw [if_pos e]
      rcases hE with h | h
      · omega
      · exact absurd e h
    · rw [if_neg e]
  unfold nxR
  rw [this]
theorem nxR_new {s : Wst} {t : Int} {k : Nat} (ht : 0 ≤ t) (h : t < s.E k) (hv : s.E k < nvr) (hc : nxR s t k < 0 ∨ s.E k < nxR s t k) : nxR s t (k + 1) = s.E k := by
  have h0 := nxF_top s.E t k
  have h1 : s.E k ≤ nxF s.E t k := by
    rcases hc with e | e
    · rw [nxR_neg ht] at e; omega
    · unfold nxR at e
      by_cases e2 : nxF s.E t k = nvr
      · omega
      · rw [if_neg e2] at e; omega
  have : nxF s.E t (k + 1) = s.E k := by rw [nxF, if_pos h]; omega
  unfold nxR
  rw [this, if_neg (by omega)]
theorem nxR_old {s : Wst} {t : Int} {k : Nat} (ht : 0 ≤ t) (h : t < s.E k) (hc : ¬ (nxR s t k < 0 ∨ s.E k < nxR s t k)) : nxR s t (k + 1) = nxR s t k := by
  have e1 : nxF s.E t k ≠ nvr := fun e => hc (Or.inl ((nxR_neg ht).2 e))
  have e2 : nxR s t k = nxF s.E t k := by unfold nxR; rw [if_neg e1]
  have : nxF s.E t (k + 1) = nxF s.E t k := by
    rw [nxF, if_pos h]
    have : ¬ s.E k < nxR s t k := fun e => hc (Or.inr e)
    rw [e2] at this
    omega
  unfold nxR
  rw [this]
/-- What the reference gives is the run's end. -/
theorem ref_end {n m : Nat} {l : List Ed} {d : Nat → Int} {t en : Int} {s : Wst} (hr : Run n m l d t s) (hg : Gr n l) (hac : ∀ i, ¬ Rch (eB l) i i) (hd : ∀ i, i < n → 0 ≤ d i ∧ d i ≤ 1000000000) (hm : 1 ≤ m) (hall : ∀ i, i < n → s.E i ≠ nvr) (he : EnB n s en) (hle : ∀ i, i < n → s.E i ≠ nvr → s.E i ≤ en) :
    Run n m l d en s ∧ stk n m l en s ∧ nxF s.E en n = nvr := by
  obtain ⟨t', _, h1, h2, h3⟩ := hr.finish hall _ (Nat.le_refl _)
  have hb := h1.bnd hg hd
  have ha := (h1.both hg hd).1.all hg hac hd ⟨hb.1, by omega⟩ hm h2 h3
  have h0 : 0 ≤ en := by
    rcases he with e | ⟨j, hj, e1, e2⟩
    · omega
    · rcases (h1.both hg hd).1.job j hj with e3 | ⟨e4, _, e5, _⟩
      · exact absurd e3 e1
      · have := hd j hj; omega
  have : en = t' := by
    have hup : en ≤ t' := by
      rcases he with e | ⟨j, hj, _, e⟩
      · omega
      · have := (ha j hj).2; omega
    rcases h1.en hg hd with e | ⟨i, hi, e⟩
    · omega
    · have := hle i hi (hall i hi); omega
  rw [this]
  exact ⟨h1, h2, h3⟩

set_option maxHeartbeats 4000000 in
set_option maxRecDepth 100000 in
theorem graphRun_any {w : World} {q pd : Option Addr} {l : List Ed} {d : List Int} {n m cap cd : Nat} (h : Eds w q l) (hg : Gr n l) (hl : l.length ≤ 400) (hd : Nums w pd d) (hdn : d.length = n) (hm : 1 ≤ m ∧ m ≤ 20) (hD : ∀ i, i < n → 0 ≤ nm d i ∧ nm d i ≤ 1000000000) (hac : ∀ i, ¬ Rch (eB l) i i) :
    Calls Tryd.prog 7 #[.int .i64 (m : Int), .int .i64 (n : Int), .slice q l.length cap, .slice pd n cd] w fun e w' => (∃ t s gR, e = .returned (.tuple #[.slice (some ⟨gR, 0, none⟩) n n, .int .i64 t]) ∧ Run n m l (nm d) t s ∧ stk n m l t s ∧ nxF s.E t n = nvr ∧ Rk w' w.heap.size gR n s.A s.H) ∧ Below w.heap.size w w' := by
  have hgH : Hid (Gr n l) := hg
  have hlH : Hid (l.length ≤ 400) := hl
  have hmH : Hid (1 ≤ m ∧ m ≤ 20) := hm
  have hnH : Hid (n ≤ 60) := hg.n60
  have hdnH : Hid (d.length = n) := hdn
  have hDH : Hid (∀ i, i < n → 0 ≤ nm d i ∧ nm d i ≤ 1000000000) := hD
  have hacH : Hid (∀ i, ¬ Rch (eB l) i i) := hac
  have hEb : Hid (∀ w1, Below w.heap.size w w1 → Eds w1 q l) := fun w1 hb => h.below hb (Nat.le_refl _)
  have hdb : Hid (∀ w1, Below w.heap.size w w1 → Nums w1 pd d) := fun w1 hb => hd.below hb (Nat.le_refl _)
  clear h hg hl hd hdn hm hD hac
  go_enter Tryd.func7, Tryd.ntmps7
  go_wp2_with (first
    | (at_make; obtain ⟨i0, hi, hz0, hz1, hz2⟩ := info_parts info_turn; refine wpList_make_full _ rfl _ _ 24 rfl w.heap.size 50 i0 (.agg #[.int .i64 0, .int .i64 0]) 2 Tryd.underlying24 hi hz0 hz1 _ _ _ _ n rfl rfl rfl rfl (by rw [hz2]; have := hnH.out; omega) (by unfold maxLen; have := hnH.out; omega) (Nat.le_refl _) ?_; intro w1 hown1 hgrow1; clear hi hz0 hz1 hz2)
    | go_in)
  have hR1 : Hid (Rk w1 w.heap.size w.heap.size n (fun i => if i < 0 then -1 else 0) (fun i => if i < 0 then -1 else 0)) := by
    have e : ∀ j, j < n * 2 → w1.cell? ⟨w.heap.size, j, none⟩ = some (.int .i64 0) := fun j hj => by
      rw [hown1.cellAt j hj]
      show (madeCells #[.int .i64 0, .int .i64 0] (n * 2)).toList[j]? = _
      have : j % 2 = 0 ∨ j % 2 = 1 := by omega
      rcases this with e | e <;> simp [madeCells, hj, e]
    exact ⟨Nat.le_refl _, (hown1.lt _ rfl).2, fun i hi => ⟨by rw [e _ (by omega), if_neg (by omega)], by rw [e _ (by omega), if_neg (by omega)], owns_frz hown1 _, owns_frz hown1 _⟩⟩
  have hB1 : Hid (Below w.heap.size w w1) := ⟨hgrow1.os, hgrow1.tape, hgrow1.output, hgrow1.size, fun k hk => hgrow1.block k hk (by simp)⟩
  clear hown1 hgrow1
  generalize hgb : w.heap.size = gb at *
  have hgbH : Hid (w.heap.size = gb) := hgb
  clear hgb
  go_loopg [33] n (fun gz iv wr => ∃ i : Nat, iv = .int .i64 i ∧ n - i ≤ gz ∧ Hid (i ≤ n) ∧ Hid (Rk wr gb gb n (fun j => if j < i then -1 else 0) (fun j => if j < i then -1 else 0)) ∧ Hid (Below gb w wr))
  case atStart => exact ⟨0, rfl, by omega, Nat.zero_le _, hR1, hB1⟩
  case round =>
    clear hR1 hB1
    obtain ⟨i, rfl, hgz, hin, hR, hB⟩ := hrel
    by_cases hi : i < n
    · have hiH : Hid (i < n) := hi
      have hi2 : Hid (i ≤ 100000) := by have := hnH.out; show _ ≤ _; omega
      have hiz : (i : Int) < (n : Int) := by omega
      have hiz0 : ¬ (i : Int) < 0 := by omega
      have hizg : ¬ (n : Int) ≤ (i : Int) := by omega
      obtain ⟨c0, c1, f0, f1⟩ := hR.out.c i hi
      have hR2 : Hid (Rk ((wr.setCell ⟨gb, i * 2, none⟩ (.int .i64 (-1))).setCell ⟨gb, i * 2 + 1, none⟩ (.int .i64 (-1))) gb gb n (fun j => if j < i + 1 then -1 else 0) (fun j => if j < i + 1 then -1 else 0)) := by
        have e1 : ∀ j, fp (fun j => if j < i then (-1 : Int) else 0) i (-1) j = if j < i + 1 then -1 else 0 := fun j => by
          show (if j = i then (-1 : Int) else if j < i then -1 else 0) = _
          by_cases e1 : j = i
          · rw [if_pos e1, if_pos (by omega)]
          · by_cases e2 : j < i
            · rw [if_neg e1, if_pos e2, if_pos (by omega)]
            · rw [if_neg e1, if_neg e2, if_neg (by omega)]
        exact (hR.out.set hi (-1) (-1)).congr (fun j _ => e1 j) (fun j _ => e1 j)
      have hB2 : Hid (Below gb w ((wr.setCell ⟨gb, i * 2, none⟩ (.int .i64 (-1))).setCell ⟨gb, i * 2 + 1, none⟩ (.int .i64 (-1)))) := (hB.out.setCell (Nat.le_refl gb) _).setCell (Nat.le_refl gb) _
      clear hi hR hB
      go_wp2
      go_roundg (n - (i + 1))
      case measure => have := hiH.out; omega
      case rel => exact ⟨i + 1, by first | exact int_wsucc hi2.out | exact int_succ i, Nat.le_refl _, hiH.out, hR2, hB2⟩
    · have hiz : ¬ (i : Int) < (n : Int) := by omega
      have e : i = n := by have := hin.out; omega
      have hR0 : Hid (Rk wr gb gb n (aA wst0) (aH wst0)) := hR.out.congr (fun j hj => by rw [if_pos (by omega)]; rfl) (fun j hj => by rw [if_pos (by omega)]; rfl)
      clear hR hgz hin
      go_wp2
      clear e
      go_loopg [12, 13] (n + 1) (fun gz tv ev wr => ∃ (t en : Int) (s : Wst), tv = .int .i64 t ∧ ev = .int .i64 en ∧ ctE s.E (t + 1) n + 1 ≤ gz ∧ Hid (Run n m l (nm d) t s) ∧ Hid (EnB n s en) ∧ Hid (Rk wr gb gb n (aA s) (aH s)) ∧ Hid (Below gb w wr))
      case atStart => exact ⟨0, 0, wst0, rfl, rfl, by have := ctE_le wst0.E (0 + 1) n; omega, .start, Or.inl rfl, hR0, hB⟩
      case round =>
        clear hR0 hB
        rename World => wr
        obtain ⟨t, en, s, rfl, rfl, hgz, hrun, hen, hR, hB⟩ := hrel
        obtain ⟨c0, hc0⟩ : ∃ c0, ctE s.E (t + 1) n = c0 := ⟨_, rfl⟩
        have hc0H : Hid (c0 + 1 ≤ gk) := by rw [← hc0]; exact hgz
        have hrun0 : Hid (Run n m l (nm d) t s ∧ ctE s.E (t + 1) n ≤ c0) := ⟨hrun.out, by omega⟩
        clear hgz hc0 hrun
        go_wp2
        go_loopg [14] (n + 2) (fun gz2 bv wq => ∃ (b : Bool) (s2 : Wst), bv = .bool b ∧ Hid ((if b = true then ctN s2.E n + 1 else 0) ≤ gz2) ∧ Hid (b = false → stk n m l t s2) ∧ Hid (Run n m l (nm d) t s2 ∧ ctE s2.E (t + 1) n ≤ c0) ∧ Hid (EnB n s2 en) ∧ Hid (Rk wq gb gb n (aA s2) (aH s2)) ∧ Hid (Below gb w wq))
        case atStart => exact ⟨true, s, rfl, by have := ctN_le s.E n; show (if true = true then ctN s.E n + 1 else 0) ≤ n + 2; rw [if_pos rfl]; omega, fun h => (by cases h), hrun0, hen, hR, hB⟩
        case round =>
          clear hrun0 hen hR hB
          rename World => wq
          obtain ⟨b, s2, rfl, hgz2, hst, hrun, hen, hR, hB⟩ := hrel
          cases b with
          | true =>
            have hgzt : Hid (ctN s2.E n + 1 ≤ gk) := by have := hgz2.out; rwa [if_pos rfl] at this
            have hb0 := hrun.out.1.bnd hgH.out hDH.out
            have hbt : Hid (0 ≤ t ∧ t ≤ 60000000000) := hb0
            have hwin : Hid (Win n m l (nm d) t s2) := (hrun.out.1.both hgH.out hDH.out).1
            clear hgz2 hst hb0
            go_upto_block 6 with fail
            go_cut [15, 16, 17, 18, 19] from 41 to 133 (fun hv v1 v2 v3 v4 wx => (∃ hh : Int, hv = .int .i64 hh ∧ Hid ((hh = -1 ∧ ∀ k, k < m → t < s2.F k) ∨ ∃ h : Nat, h < m ∧ hh = (h : Int) ∧ s2.F h ≤ t ∧ ∀ k, k < h → t < s2.F k)) ∧ Hid (Below wq.heap.size wq wx))
            case first =>
              go_wp2
              go_loopg [15, 43] m (fun gz4 hv kv w4 => ∃ k : Nat, kv = .int .i64 k ∧ hv = .int .i64 (-1) ∧ m - k ≤ gz4 ∧ Hid (k ≤ m) ∧ Hid (∀ j, j < k → t < s2.F j) ∧ Hid (Below wq.heap.size wq w4))
              case atStart => exact ⟨0, rfl, rfl, by omega, Nat.zero_le _, fun j hj => by omega, Below.refl _ _⟩
              case round =>
                rename World => w4
                obtain ⟨k, rfl, rfl, hgz4, hkm, hbs, hb4⟩ := hrel
                by_cases hk : k < m
                · have hkH : Hid (k < m) := hk
                  have hk2 : Hid (k ≤ 100000) := by have := hmH.out; show _ ≤ _; omega
                  have hkz : (k : Int) < (m : Int) := by omega
                  clear hk
                  go_wp2
                  go_loopg [17, 48] n (fun gz5 bv iv w5 => ∃ i : Nat, iv = .int .i64 i ∧ bv = .bool (bzF s2 t k i) ∧ n - i ≤ gz5 ∧ Hid (i ≤ n) ∧ Hid (Below w4.heap.size w4 w5))
                  case atStart => exact ⟨0, rfl, rfl, by omega, Nat.zero_le _, Below.refl _ _⟩
                  case round =>
                    rename World => w5
                    obtain ⟨i, rfl, rfl, hgz5, hin, hb5⟩ := hrel
                    have hb15 : Hid (Below wq.heap.size wq w5) := hb4.out.trans (hb5.out.mono hb4.out.size)
                    by_cases hi : i < n
                    · have hiH : Hid (i < n) := hi
                      have hi2 : Hid (i ≤ 100000) := by have := hnH.out; show _ ≤ _; omega
                      have hiz : (i : Int) < (n : Int) := by omega
                      have hiz0 : ¬ (i : Int) < 0 := by omega
                      have hizg : ¬ (n : Int) ≤ (i : Int) := by omega
                      obtain ⟨z0, z1, _, _⟩ := (hR.out.below hb15.out).c i hi
                      have hn := heap_alloc_new w5 (.cells #[.int .i64 (aA s2 i), .int .i64 (aH s2 i)] 50)
                      have hb6 : Hid (Below w4.heap.size w4 (w5.alloc (.cells #[.int .i64 (aA s2 i), .int .i64 (aH s2 i)] 50))) := hb5.out.alloc hb5.out.size _
                      have hb7 : Hid (Below gb w (w5.alloc (.cells #[.int .i64 (aA s2 i), .int .i64 (aH s2 i)] 50))) := hB.out.trans (((hb15.out.alloc hb15.out.size _)).mono (Nat.le_of_lt (Nat.lt_of_le_of_lt hR.out.lo hR.out.lt)))
                      clear hi hb5 hb15
                      go_wp2
                      generalize w5.alloc (.cells #[.int .i64 (aA s2 i), .int .i64 (aH s2 i)] 50) = wy at *
                      generalize w5.heap.size = hy at *
                      have q0 : wy.cell? ⟨hy, 0, none⟩ = some (.int .i64 (aA s2 i)) := (cell_of_row _ _ 0 _ _ _ hn).trans rfl
                      have q1 : wy.cell? ⟨hy, 1, none⟩ = some (.int .i64 (aH s2 i)) := (cell_of_row _ _ 1 _ _ _ hn).trans rfl
                      obtain ⟨db, dof, rfl, q2⟩ := (hdb.out wy hb7.out).at3 (i := i) (by rw [hdnH.out]; exact hiH.out)
                      clear hn z0 z1
                      obtain ⟨b0, hb0⟩ : ∃ b0, bzF s2 t k i = b0 := ⟨_, rfl⟩
                      rw [hb0]
                      have hb0H : Hid (bzF s2 t k i = b0) := hb0
                      clear hb0
                      cases b0 with
                      | true =>
                        have hnx : Hid (bzF s2 t k (i + 1) = true) := bzF_skip hb0H.out
                        go_quiet (fail)
                        clear q0 q1 q2
                        go_wp2
                        go_roundg (n - (i + 1))
                        case measure => have := hiH.out; omega
                        case rel => exact ⟨i + 1, by first | exact int_wsucc hi2.out | exact int_succ i, by rw [hnx.out], Nat.le_refl _, hiH.out, hb6.out.trans ⟨rfl, rfl, rfl, Nat.le_refl _, fun _ _ => rfl⟩⟩
                      | false =>
                        by_cases hH : aH s2 i = (k : Int)
                        · have hHd : (aH s2 i == (k : Int)) = true := by simpa using hH
                          have hE : s2.E i ≠ nvr := fun e => by unfold aH at hH; rw [if_pos e] at hH; omega
                          have hH2 : s2.H i = (k : Int) := by unfold aH at hH; rwa [if_neg hE] at hH
                          have hA2 : aA s2 i = s2.A i := by unfold aA; rw [if_neg hE]
                          rw [hA2] at q0
                          have hj := (hwin.out.job i hiH.out).resolve_left hE
                          have hDi := hDH.out i hiH.out
                          have hw1 : wrap64 (s2.A i + nm d i) = s2.A i + nm d i := by have := hbt.out; unfold wrap64; omega
                          by_cases hc : t < s2.A i + nm d i
                          · have hcd : decide (t < s2.A i + nm d i) = true := decide_eq_true hc
                            have hnx : Hid (bzF s2 t k (i + 1) = true) := bzF_yes hE hH2 (by omega)
                            clear hE hH2 hA2 hj hDi hc hH
                            go_quiet (fail)
                            clear q0 q1 q2
                            go_wp2
                            go_roundg (n - (i + 1))
                            case measure => have := hiH.out; omega
                            case rel => exact ⟨i + 1, by first | exact int_wsucc hi2.out | exact int_succ i, by rw [hnx.out], Nat.le_refl _, hiH.out, hb6.out.trans ⟨rfl, rfl, rfl, Nat.le_refl _, fun _ _ => rfl⟩⟩
                          · have hcd : decide (t < s2.A i + nm d i) = false := decide_eq_false hc
                            have hnx : Hid (bzF s2 t k (i + 1) = false) := bzF_no hb0H.out (fun h => by omega)
                            clear hE hH2 hA2 hj hDi hc hH
                            go_quiet (fail)
                            clear q0 q1 q2
                            go_wp2
                            go_roundg (n - (i + 1))
                            case measure => have := hiH.out; omega
                            case rel => exact ⟨i + 1, by first | exact int_wsucc hi2.out | exact int_succ i, by rw [hnx.out], Nat.le_refl _, hiH.out, hb6.out.trans ⟨rfl, rfl, rfl, Nat.le_refl _, fun _ _ => rfl⟩⟩
                        · have hHd : (aH s2 i == (k : Int)) = false := by simpa using hH
                          have hnx : Hid (bzF s2 t k (i + 1) = false) := bzF_no hb0H.out (fun h => hH (by unfold aH; rw [if_neg h.1]; exact h.2.1))
                          clear hH
                          go_quiet (fail)
                          clear q0 q1 q2
                          go_wp2
                          go_roundg (n - (i + 1))
                          case measure => have := hiH.out; omega
                          case rel => exact ⟨i + 1, by first | exact int_wsucc hi2.out | exact int_succ i, by rw [hnx.out], Nat.le_refl _, hiH.out, hb6.out.trans ⟨rfl, rfl, rfl, Nat.le_refl _, fun _ _ => rfl⟩⟩
                    · have hiz : ¬ (i : Int) < (n : Int) := by omega
                      have e : i = n := by have := hin.out; omega
                      subst e
                      have hbw := hwin.out.busy hbt.out.1 hkH.out
                      cases hbz : bzF s2 t k i with
                      | true =>
                        have hFk : Hid (t < s2.F k) := hbw.1 hbz
                        clear hbw hgz5 hb5
                        go_wp2
                        go_roundg (m - (k + 1))
                        case measure => have := hkH.out; omega
                        case rel => exact ⟨k + 1, by first | exact int_wsucc hk2.out | exact int_succ k, rfl, Nat.le_refl _, hkH.out, fun j hj => by
                          by_cases e : j = k
                          · subst e; exact hFk.out
                          · exact hbs.out j (by omega), hb15⟩
                      | false =>
                        have hFk : Hid (s2.F k ≤ t) := by
                          by_cases e : t < s2.F k
                          · have := hbw.2 e; rw [hbz] at this; cases this
                          · show _ ≤ _; omega
                        clear hbw hgz5 hb5
                        go_wp2
                        go_meet
                        case rel => exact ⟨⟨_, rfl, Or.inr ⟨k, hkH.out, rfl, hFk.out, hbs.out⟩⟩, hb15⟩
                · have hkz : ¬ (k : Int) < (m : Int) := by omega
                  clear hgz4
                  go_wp2
                  go_meet
                  case rel => exact ⟨⟨_, rfl, Or.inl ⟨rfl, fun j hj => hbs.out j (by omega)⟩⟩, hb4⟩
            case rest =>
              obtain ⟨⟨hh, rfl, hhc⟩, hbc⟩ := hcut
              have hgbq : Hid (gb ≤ wq.heap.size) := Nat.le_of_lt (Nat.lt_of_le_of_lt hR.out.lo hR.out.lt)
              have hRc : Hid (Rk wc gb gb n (aA s2) (aH s2)) := hR.out.below hbc.out
              have hBc : Hid (Below gb w wc) := hB.out.trans (hbc.out.mono hgbq.out)
              have hgbc : Hid (gb ≤ wc.heap.size) := Nat.le_trans hgbq.out hbc.out.size
              clear hR hB hbc
              go_wp2
              go_loopg [14, 77] n (fun gz6 bv iv w6 => ∃ i : Nat, iv = .int .i64 i ∧ bv = .bool false ∧ n - i ≤ gz6 ∧ Hid (i ≤ n) ∧ Hid (hh < 0 ∨ ∀ j, j < i → ¬ rdy l t s2 j) ∧ Hid (Below wc.heap.size wc w6))
              case atStart => exact ⟨0, rfl, rfl, by omega, Nat.zero_le _, Or.inr (fun j hj => by omega), Below.refl _ _⟩
              case round =>
                rename World => w6
                obtain ⟨i, rfl, rfl, hgz6, hin, hno, hb6⟩ := hrel
                have hB6 : Hid (Below gb w w6) := hBc.out.trans (hb6.out.mono hgbc.out)
                have hR6 : Hid (Rk w6 gb gb n (aA s2) (aH s2)) := hRc.out.below hb6.out
                by_cases hi : i < n
                · have hiH : Hid (i < n) := hi
                  have hi2 : Hid (i ≤ 100000) := by have := hnH.out; show _ ≤ _; omega
                  have hiz : (i : Int) < (n : Int) := by omega
                  have hiz0 : ¬ (i : Int) < 0 := by omega
                  have hizg : ¬ (n : Int) ≤ (i : Int) := by omega
                  obtain ⟨z0, z1, f0, f1⟩ := hR6.out.c i hi
                  clear hi
                  by_cases hE : s2.E i = nvr
                  · have hA2 : aA s2 i = -1 := by unfold aA; rw [if_pos hE]
                    rw [hA2] at z0
                    have hEH : Hid (s2.E i = nvr) := hE
                    clear hE hA2
                    by_cases hhn : hh < 0
                    · have hhd : decide (hh < 0) = true := decide_eq_true hhn
                      have hhH : Hid (hh < 0) := hhn
                      clear hhn
                      go_wp2
                      go_roundg (n - (i + 1))
                      case measure => have := hiH.out; omega
                      case rel => exact ⟨i + 1, by first | exact int_wsucc hi2.out | exact int_succ i, rfl, Nat.le_refl _, hiH.out, Or.inl hhH.out, hb6⟩
                    · obtain ⟨hd1, hd2, rfl, hd3, hd4⟩ : ∃ h : Nat, h < m ∧ hh = (h : Int) ∧ s2.F h ≤ t ∧ ∀ k, k < h → t < s2.F k := by
                        rcases hhc.out with h1 | h1
                        · omega
                        · exact h1
                      have hhd : decide ((hd1 : Int) < 0) = false := decide_eq_false hhn
                      have hno2 : Hid (∀ j, j < i → ¬ rdy l t s2 j) := hno.out.resolve_left hhn
                      have hhand : Hid (hd1 < m ∧ s2.F hd1 ≤ t ∧ ∀ k, k < hd1 → t < s2.F k) := ⟨hd2, hd3, hd4⟩
                      clear hhn hno hd2 hd3 hd4 hhc
                      go_wp2
                      clear z0 z1 f0 f1
                      go_loopg [21, 92] l.length (fun gz7 ov kv w7 => ∃ (k : Nat) (b : Bool), kv = .int .i64 k ∧ ov = .bool b ∧ l.length - k ≤ gz7 ∧ Hid (k ≤ l.length) ∧ Hid (b = true ↔ ∀ e ∈ l.take k, ¬ bdE s2 (nm d) t i e) ∧ Hid (Below w6.heap.size w6 w7))
                      case atStart => exact ⟨0, true, rfl, rfl, by omega, Nat.zero_le _, ⟨fun _ e he => by simp at he, fun _ => rfl⟩, Below.refl _ _⟩
                      case round =>
                        rename World => w7
                        obtain ⟨k, b7, rfl, rfl, hgz7, hkl, hok7, hb7⟩ := hrel
                        have hgb6 : Hid (gb ≤ w6.heap.size) := Nat.le_of_lt (Nat.lt_of_le_of_lt hR6.out.lo hR6.out.lt)
                        by_cases hk : k < l.length
                        · have hkH : Hid (k < l.length) := hk
                          have hk2 : Hid (k ≤ 100000) := by have := hlH.out; show _ ≤ _; omega
                          have hkz : (k : Int) < (l.length : Int) := by omega
                          have hok := hgH.out.ok _ (ed_mem hk)
                          obtain ⟨F, hF⟩ : ∃ F : Nat, (ed l k).f = (F : Int) := ⟨(ed l k).f.toNat, by omega⟩
                          obtain ⟨T, hT⟩ : ∃ T : Nat, (ed l k).t = (T : Int) := ⟨(ed l k).t.toNat, by omega⟩
                          have hFn : Hid (F < n) := by show _ < _; omega
                          have hbdI : Hid (bdE s2 (nm d) t i (ed l k) ↔ ((T : Int) = (i : Int) ∧ (aA s2 F < 0 ∨ t < aA s2 F + nm d F))) := by
                            show _ ↔ _
                            unfold bdE
                            rw [hF, hT, Int.toNat_natCast]
                          rcases hEb.out w7 (hB6.out.trans (hb7.out.mono hgb6.out)) with hh0 | ⟨eb, eo, rfl, hAr⟩
                          · omega
                          have z0 := hAr.cf k hk
                          have z1 := hAr.ct k hk
                          rw [hF] at z0
                          rw [hT] at z1
                          have hn := heap_alloc_new w7 (.cells #[.int .i64 (F : Int), .int .i64 (T : Int)] 52)
                          have hb8 : Hid (Below w6.heap.size w6 (w7.alloc (.cells #[.int .i64 (F : Int), .int .i64 (T : Int)] 52))) := hb7.out.alloc hb7.out.size _
                          clear hAr hok hF hT hk hb7
                          go_wp2
                          generalize w7.alloc (.cells #[.int .i64 (F : Int), .int .i64 (T : Int)] 52) = wy at *
                          generalize w7.heap.size = hy at *
                          have q0 : wy.cell? ⟨hy, 0, none⟩ = some (.int .i64 (F : Int)) := (cell_of_row _ _ 0 _ _ _ hn).trans rfl
                          have q1 : wy.cell? ⟨hy, 1, none⟩ = some (.int .i64 (T : Int)) := (cell_of_row _ _ 1 _ _ _ hn).trans rfl
                          clear hn z0 z1
                          have q2 : wy.cell? ⟨gb, F * 2, none⟩ = some (.int .i64 (aA s2 F)) := ((hR6.out.below hb8.out).c F hFn.out).1
                          obtain ⟨db, dof, rfl, q3⟩ := (hdb.out wy (hB6.out.trans (hb8.out.mono hgb6.out))).at3 (i := F) (by rw [hdnH.out]; exact hFn.out)
                          have g1 : (F : Int) < (n : Int) := by have := hFn.out; omega
                          have g2 : ¬ (F : Int) < 0 := by omega
                          have g3 : ¬ (n : Int) ≤ (F : Int) := by have := hFn.out; omega
                          by_cases hTi : (T : Int) = (i : Int)
                          · have hTd : ((T : Int) == (i : Int)) = true := by simpa using hTi
                            by_cases hA0 : aA s2 F < 0
                            · have hA0d : decide (aA s2 F < 0) = true := decide_eq_true hA0
                              have hbd : bdE s2 (nm d) t i (ed l k) := hbdI.out.2 ⟨hTi, Or.inl hA0⟩
                              clear hTi hA0 hbdI
                              have hnx : Hid (false = true ↔ ∀ e ∈ l.take (k + 1), ¬ bdE s2 (nm d) t i e) := by
                                show _ ↔ _
                                rw [take_snoc hkH.out]
                                exact ⟨fun h => (by cases h), fun h => absurd hbd (h _ (List.mem_append_right _ (List.mem_singleton.2 rfl)))⟩
                              clear hbd hok7
                              go_quiet (fail)
                              clear q0 q1 q2 q3
                              go_wp2
                              go_roundg (l.length - (k + 1))
                              case measure => have := hkH.out; omega
                              case rel => exact ⟨k + 1, false, by first | exact int_wsucc hk2.out | exact int_succ k, rfl, Nat.le_refl _, hkH.out, hnx, hb8.out.trans ⟨rfl, rfl, rfl, Nat.le_refl _, fun _ _ => rfl⟩⟩
                            · have hA0d : decide (aA s2 F < 0) = false := decide_eq_false hA0
                              have hAb : 0 ≤ aA s2 F ∧ aA s2 F ≤ 60000000000 := by
                                have h1 := hbt.out
                                unfold aA at hA0 ⊢
                                by_cases e : s2.E F = nvr
                                · rw [if_pos e] at hA0; omega
                                · rw [if_neg e] at hA0 ⊢
                                  have := (hwin.out.job F hFn.out).resolve_left e
                                  omega
                              have hDF := hDH.out F hFn.out
                              have hw1 : wrap64 (aA s2 F + nm d F) = aA s2 F + nm d F := by unfold wrap64; omega
                              by_cases hA1 : t < aA s2 F + nm d F
                              · have hA1d : decide (t < aA s2 F + nm d F) = true := decide_eq_true hA1
                                have hbd : bdE s2 (nm d) t i (ed l k) := hbdI.out.2 ⟨hTi, Or.inr hA1⟩
                                clear hTi hA0 hbdI hA1 hAb hDF
                                have hnx : Hid (false = true ↔ ∀ e ∈ l.take (k + 1), ¬ bdE s2 (nm d) t i e) := by
                                  show _ ↔ _
                                  rw [take_snoc hkH.out]
                                  exact ⟨fun h => (by cases h), fun h => absurd hbd (h _ (List.mem_append_right _ (List.mem_singleton.2 rfl)))⟩
                                clear hbd hok7
                                go_quiet (fail)
                                clear q0 q1 q2 q3
                                go_wp2
                                go_roundg (l.length - (k + 1))
                                case measure => have := hkH.out; omega
                                case rel => exact ⟨k + 1, false, by first | exact int_wsucc hk2.out | exact int_succ k, rfl, Nat.le_refl _, hkH.out, hnx, hb8.out.trans ⟨rfl, rfl, rfl, Nat.le_refl _, fun _ _ => rfl⟩⟩
                              · have hA1d : decide (t < aA s2 F + nm d F) = false := decide_eq_false hA1
                                have hbd : ¬ bdE s2 (nm d) t i (ed l k) := fun h => by
                                  rcases (hbdI.out.1 h).2 with h2 | h2
                                  · exact hA0 h2
                                  · exact hA1 h2
                                clear hTi hA0 hbdI hA1 hAb hDF
                                have hnx : Hid (b7 = true ↔ ∀ e ∈ l.take (k + 1), ¬ bdE s2 (nm d) t i e) := by
                                  show _ ↔ _
                                  rw [take_snoc hkH.out]
                                  constructor
                                  · intro h e he
                                    rcases List.mem_append.1 he with h3 | h3
                                    · exact hok7.out.1 h e h3
                                    · rw [List.mem_singleton.1 h3]; exact hbd
                                  · exact fun h => hok7.out.2 fun e he => h e (List.mem_append_left _ he)
                                clear hbd hok7
                                go_quiet (fail)
                                clear q0 q1 q2 q3
                                go_wp2
                                go_roundg (l.length - (k + 1))
                                case measure => have := hkH.out; omega
                                case rel => exact ⟨k + 1, b7, by first | exact int_wsucc hk2.out | exact int_succ k, rfl, Nat.le_refl _, hkH.out, hnx, hb8.out.trans ⟨rfl, rfl, rfl, Nat.le_refl _, fun _ _ => rfl⟩⟩
                          · have hTd : ((T : Int) == (i : Int)) = false := by simpa using hTi
                            have hbd : ¬ bdE s2 (nm d) t i (ed l k) := fun h => hTi (hbdI.out.1 h).1
                            clear hTi hbdI
                            have hnx : Hid (b7 = true ↔ ∀ e ∈ l.take (k + 1), ¬ bdE s2 (nm d) t i e) := by
                              show _ ↔ _
                              rw [take_snoc hkH.out]
                              constructor
                              · intro h e he
                                rcases List.mem_append.1 he with h3 | h3
                                · exact hok7.out.1 h e h3
                                · rw [List.mem_singleton.1 h3]; exact hbd
                              · exact fun h => hok7.out.2 fun e he => h e (List.mem_append_left _ he)
                            clear hbd hok7
                            go_quiet (fail)
                            clear q0 q1 q2 q3
                            go_wp2
                            go_roundg (l.length - (k + 1))
                            case measure => have := hkH.out; omega
                            case rel => exact ⟨k + 1, b7, by first | exact int_wsucc hk2.out | exact int_succ k, rfl, Nat.le_refl _, hkH.out, hnx, hb8.out.trans ⟨rfl, rfl, rfl, Nat.le_refl _, fun _ _ => rfl⟩⟩
                        · have hkz : ¬ (k : Int) < (l.length : Int) := by omega
                          have hall : b7 = true ↔ ∀ e ∈ l, ¬ bdE s2 (nm d) t i e := by have := hok7.out; rwa [List.take_of_length_le (by omega)] at this
                          have hB7 : Hid (Below gb w w7) := hB6.out.trans (hb7.out.mono hgb6.out)
                          have hR7 : Hid (Rk w7 gb gb n (aA s2) (aH s2)) := hR6.out.below hb7.out
                          have hbw7 : Hid (Below wc.heap.size wc w7) := hb6.out.trans (hb7.out.mono hb6.out.size)
                          have hri := hwin.out.rdy_iff hgH.out (show t < nvr by have := hbt.out; unfold nvr; omega) hiH.out
                          clear hok7 hb7 hgz7
                          cases b7 with
                          | true =>
                            have hrd : Hid (rdy l t s2 i) := hri.2 ⟨hEH.out, hall.1 rfl⟩
                            have hne : Hid (t + nm d i ≠ nvr) := by have := hbt.out; have := hDH.out i hiH.out; show _ ≠ _; unfold nvr; omega
                            have hrun2 : Hid (Run n m l (nm d) t (wbg (nm d) t s2 i hd1)) := .bgn hrun.out.1 hiH.out hhand.out.1 hhand.out.2.1 hhand.out.2.2 hrd.out hno2.out
                            have hct : Hid (ctE (wbg (nm d) t s2 i hd1).E (t + 1) n ≤ c0) := by
                              have h1 : ctE (wbg (nm d) t s2 i hd1).E (t + 1) n ≤ ctE s2.E (t + 1) n := ctE_mono fun j _ hj => fp_nvr hrd.out.1 (by have := hbt.out; unfold nvr; omega) hj
                              have h2 := hrun.out.2
                              show _ ≤ _
                              omega
                            have hcn : Hid (ctN (wbg (nm d) t s2 i hd1).E n + 1 = ctN s2.E n) := by
                              have h1 := ctN_fp (v := t + nm d i) hne.out hrd.out.1 n
                              rw [if_pos hiH.out] at h1
                              exact h1
                            have hR8 : Hid (Rk ((w7.setCell ⟨gb, i * 2, none⟩ (.int .i64 t)).setCell ⟨gb, i * 2 + 1, none⟩ (.int .i64 (hd1 : Int))) gb gb n (aA (wbg (nm d) t s2 i hd1)) (aH (wbg (nm d) t s2 i hd1))) := (hR7.out.set hiH.out t (hd1 : Int)).congr (fun j _ => aA_bgn hne.out j) (fun j _ => aH_bgn hne.out j)
                            have hB8 : Hid (Below gb w ((w7.setCell ⟨gb, i * 2, none⟩ (.int .i64 t)).setCell ⟨gb, i * 2 + 1, none⟩ (.int .i64 (hd1 : Int)))) := (hB7.out.setCell (Nat.le_refl gb) _).setCell (Nat.le_refl gb) _
                            have hen8 : Hid (EnB n (wbg (nm d) t s2 i hd1) en) := hen.out.bgn hEH.out
                            obtain ⟨c0', c1', f0, f1⟩ := hR7.out.c i hiH.out
                            clear hri hall hR7 hB7 hbw7 hrd
                            go_wp2
                            go_roundg (ctN (wbg (nm d) t s2 i hd1).E n + 1)
                            case measure => have h1 := hcn.out; have h2 := hgzt.out; omega
                            case rel => exact ⟨true, _, rfl, by show (if true = true then _ else _) ≤ _; rw [if_pos rfl]; exact Nat.le_refl _, fun h => (by cases h), ⟨hrun2.out, hct.out⟩, hen8, hR8, hB8⟩
                          | false =>
                            have hnr : Hid (¬ rdy l t s2 i) := fun h => by have := hall.2 (hri.1 h).2; cases this
                            clear hri hall
                            go_wp2
                            go_roundg (n - (i + 1))
                            case measure => have := hiH.out; omega
                            case rel => exact ⟨i + 1, by first | exact int_wsucc hi2.out | exact int_succ i, rfl, Nat.le_refl _, hiH.out, Or.inr (fun j hj => by
                              by_cases e : j = i
                              · subst e; exact hnr.out
                              · exact hno2.out j (by omega)), hbw7⟩
                  · have hA2 : aA s2 i = s2.A i := by unfold aA; rw [if_neg hE]
                    rw [hA2] at z0
                    have hj := (hwin.out.job i hiH.out).resolve_left hE
                    have hAd : decide (0 ≤ s2.A i) = true := decide_eq_true hj.1
                    have hnr : Hid (¬ rdy l t s2 i) := fun h => hE h.1
                    clear hE hA2 hj
                    go_wp2
                    go_roundg (n - (i + 1))
                    case measure => have := hiH.out; omega
                    case rel => exact ⟨i + 1, by first | exact int_wsucc hi2.out | exact int_succ i, rfl, Nat.le_refl _, hiH.out, hno.out.imp id (fun h j hj => by
                      by_cases e : j = i
                      · subst e; exact hnr.out
                      · exact h j (by omega)), hb6⟩
                · have hiz : ¬ (i : Int) < (n : Int) := by omega
                  have hst3 : Hid (stk n m l t s2) := by
                    rcases hhc.out with ⟨h1, h2⟩ | ⟨h, h1, h2, h3, h4⟩
                    · exact Or.inl h2
                    · exact Or.inr fun j hj => (hno.out.resolve_left (by omega)) j (by omega)
                  clear hgz6 hno hhc
                  go_wp2
                  go_roundg 0
                  case measure => have := hgzt.out; omega
                  case rel => exact ⟨false, s2, rfl, by show (if false = true then _ else _) ≤ _; rw [if_neg (by decide)]; exact Nat.le_refl _, fun _ => hst3.out, hrun, hen, hR6, hB6⟩
          | false =>
            have hst2 : Hid (stk n m l t s2) := hst.out rfl
            clear hgz2 hst
            have hb0 := hrun.out.1.bnd hgH.out hDH.out
            have hbt : Hid (0 ≤ t ∧ t ≤ 60000000000) := hb0
            have hwin : Hid (Win n m l (nm d) t s2) := (hrun.out.1.both hgH.out hDH.out).1
            have hgbq : Hid (gb ≤ wq.heap.size) := Nat.le_of_lt (Nat.lt_of_le_of_lt hR.out.lo hR.out.lt)
            clear hb0
            go_wp2
            go_loopg [13, 24, 25, 136] n (fun gz8 ev xv lv iv w8 => ∃ (i : Nat) (en2 : Int) (lf : Bool), iv = .int .i64 i ∧ ev = .int .i64 en2 ∧ xv = .int .i64 (nxR s2 t i) ∧ lv = .bool lf ∧ n - i ≤ gz8 ∧ Hid (i ≤ n) ∧ Hid (EnB n s2 en2 ∧ ∀ j, j < i → s2.E j ≠ nvr → s2.E j ≤ en2) ∧ Hid (lf = true ↔ ∃ j, j < i ∧ s2.E j = nvr) ∧ Hid (Below wq.heap.size wq w8))
            case atStart => exact ⟨0, en, false, rfl, rfl, rfl, rfl, by omega, Nat.zero_le _, ⟨hen.out, fun j hj => by omega⟩, ⟨fun h => (by cases h), fun ⟨j, hj, _⟩ => by omega⟩, Below.refl _ _⟩
            case round =>
              rename World => w8
              obtain ⟨i, en2, lf, rfl, rfl, rfl, rfl, hgz8, hin, hen8, hlf8, hb8⟩ := hrel
              by_cases hi : i < n
              · have hiH : Hid (i < n) := hi
                have hi2 : Hid (i ≤ 100000) := by have := hnH.out; show _ ≤ _; omega
                have hiz : (i : Int) < (n : Int) := by omega
                have hiz0 : ¬ (i : Int) < 0 := by omega
                have hizg : ¬ (n : Int) ≤ (i : Int) := by omega
                obtain ⟨z0, z1, _, _⟩ := (hR.out.below hb8.out).c i hi
                have hn := heap_alloc_new w8 (.cells #[.int .i64 (aA s2 i), .int .i64 (aH s2 i)] 50)
                have hb9 : Hid (Below wq.heap.size wq (w8.alloc (.cells #[.int .i64 (aA s2 i), .int .i64 (aH s2 i)] 50))) := hb8.out.alloc hb8.out.size _
                clear hi hb8
                by_cases hE : s2.E i = nvr
                · have hA2 : aA s2 i = -1 := by unfold aA; rw [if_pos hE]
                  have hnx : Hid (nxR s2 t (i + 1) = nxR s2 t i) := nxR_skip (Or.inl hE)
                  have hen9 : Hid (EnB n s2 en2 ∧ ∀ j, j < i + 1 → s2.E j ≠ nvr → s2.E j ≤ en2) := ⟨hen8.out.1, fun j hj h => by
                    by_cases e : j = i
                    · subst e; exact absurd hE h
                    · exact hen8.out.2 j (by omega) h⟩
                  have hlf9 : Hid (∃ j, j < i + 1 ∧ s2.E j = nvr) := ⟨i, by omega, hE⟩
                  clear hE hen8 hlf8
                  rw [hA2] at z0 hn hb9
                  generalize nxR s2 t i = nx at *
                  go_wp2
                  generalize w8.alloc (.cells #[.int .i64 (-1), .int .i64 (aH s2 i)] 50) = wy at *
                  generalize w8.heap.size = hy at *
                  have q0 : wy.cell? ⟨hy, 0, none⟩ = some (.int .i64 (-1)) := (cell_of_row _ _ 0 _ _ _ hn).trans rfl
                  clear hn z0 z1
                  have hb10 := hb9
                  go_wp2
                  go_roundg (n - (i + 1))
                  case measure => have := hiH.out; omega
                  case rel => exact ⟨i + 1, en2, true, by first | exact int_wsucc hi2.out | exact int_succ i, rfl, by rw [hnx.out], rfl, Nat.le_refl _, hiH.out, hen9, ⟨fun _ => hlf9.out, fun _ => rfl⟩, hb10⟩
                · have hA2 : aA s2 i = s2.A i := by unfold aA; rw [if_neg hE]
                  have hj := (hwin.out.job i hiH.out).resolve_left hE
                  have hDi := hDH.out i hiH.out
                  have hEA : Hid (s2.E i = s2.A i + nm d i) := hj.2.2.1
                  have hEb2 : Hid (0 ≤ s2.E i ∧ s2.E i < nvr) := by have := hbt.out; unfold nvr; constructor <;> omega
                  have hEne : Hid (s2.E i ≠ nvr) := hE
                  have hAd : decide (s2.A i < 0) = false := decide_eq_false (by omega)
                  have hw1 : wrap64 (s2.A i + nm d i) = s2.E i := by have := hbt.out; rw [hj.2.2.1]; unfold wrap64; omega
                  have hlf9 : Hid (lf = true ↔ ∃ j, j < i + 1 ∧ s2.E j = nvr) := by
                    show _ ↔ _
                    refine hlf8.out.trans ⟨fun ⟨j, h1, h2⟩ => ⟨j, by omega, h2⟩, fun ⟨j, h1, h2⟩ => ?_⟩
                    by_cases e : j = i
                    · subst e; exact absurd h2 hE
                    · exact ⟨j, by omega, h2⟩
                  rw [hA2] at z0 hn hb9
                  clear hE hA2 hj hDi hlf8
                  go_wp2
                  generalize w8.alloc (.cells #[.int .i64 (s2.A i), .int .i64 (aH s2 i)] 50) = wy at *
                  generalize w8.heap.size = hy at *
                  have q0 : wy.cell? ⟨hy, 0, none⟩ = some (.int .i64 (s2.A i)) := (cell_of_row _ _ 0 _ _ _ hn).trans rfl
                  obtain ⟨db, dof, rfl, q1⟩ := (hdb.out wy (hB.out.trans (hb9.out.mono hgbq.out))).at3 (i := i) (by rw [hdnH.out]; exact hiH.out)
                  clear hn z0 z1
                  go_wp2
                  go_quiet (fail)
                  clear q0 q1
                  have hb10 : Hid (Below wq.heap.size wq (wy.drewN nq)) := hb9.out.trans ⟨rfl, rfl, rfl, Nat.le_refl _, fun _ _ => rfl⟩
                  have hen9 : Hid (EnB n s2 (max en2 (s2.E i)) ∧ ∀ j, j < i + 1 → s2.E j ≠ nvr → s2.E j ≤ max en2 (s2.E i)) := by
                    refine ⟨?_, fun j hj h => ?_⟩
                    · by_cases e : en2 ≤ s2.E i
                      · rw [show max en2 (s2.E i) = s2.E i by omega]
                        exact Or.inr ⟨i, hiH.out, hEne.out, rfl⟩
                      · rw [show max en2 (s2.E i) = en2 by omega]
                        exact hen8.out.1
                    · by_cases e : j = i
                      · subst e; omega
                      · have := hen8.out.2 j (by omega) h; omega
                  clear hen8 hEne
                  by_cases ht : t < s2.E i
                  · have htd : decide (t < s2.E i) = true := decide_eq_true ht
                    by_cases hx0 : nxR s2 t i < 0
                    · have hx0d : decide (nxR s2 t i < 0) = true := decide_eq_true hx0
                      have hnx : Hid (nxR s2 t (i + 1) = s2.E i) := nxR_new hbt.out.1 ht hEb2.out.2 (Or.inl hx0)
                      rw [hw1]
                      generalize hyE : s2.E i = y at *
                      generalize nxR s2 t i = nx at *
                      go_wp2
                      go_roundg (n - (i + 1))
                      case measure => have := hiH.out; omega
                      case rel => exact ⟨i + 1, max en2 y, lf, by first | exact int_wsucc hi2.out | exact int_succ i, by first | rfl | exact congrArg (Value.int .i64) (by split <;> omega), by rw [hnx.out], rfl, Nat.le_refl _, hiH.out, hen9, hlf9, hb10⟩
                    · have hx0d : decide (nxR s2 t i < 0) = false := decide_eq_false hx0
                      by_cases hx1 : s2.E i < nxR s2 t i
                      · have hx1d : decide (s2.E i < nxR s2 t i) = true := decide_eq_true hx1
                        have hnx : Hid (nxR s2 t (i + 1) = s2.E i) := nxR_new hbt.out.1 ht hEb2.out.2 (Or.inr hx1)
                        rw [hw1]
                        generalize hyE : s2.E i = y at *
                        generalize nxR s2 t i = nx at *
                        go_wp2
                        go_roundg (n - (i + 1))
                        case measure => have := hiH.out; omega
                        case rel => exact ⟨i + 1, max en2 y, lf, by first | exact int_wsucc hi2.out | exact int_succ i, by first | rfl | exact congrArg (Value.int .i64) (by split <;> omega), by rw [hnx.out], rfl, Nat.le_refl _, hiH.out, hen9, hlf9, hb10⟩
                      · have hx1d : decide (s2.E i < nxR s2 t i) = false := decide_eq_false hx1
                        have hnx : Hid (nxR s2 t (i + 1) = nxR s2 t i) := nxR_old hbt.out.1 ht (by omega)
                        rw [hw1]
                        generalize hyE : s2.E i = y at *
                        generalize nxR s2 t i = nx at *
                        go_wp2
                        go_roundg (n - (i + 1))
                        case measure => have := hiH.out; omega
                        case rel => exact ⟨i + 1, max en2 y, lf, by first | exact int_wsucc hi2.out | exact int_succ i, by first | rfl | exact congrArg (Value.int .i64) (by split <;> omega), by rw [hnx.out], rfl, Nat.le_refl _, hiH.out, hen9, hlf9, hb10⟩
                  · have htd : decide (t < s2.E i) = false := decide_eq_false ht
                    have hnx : Hid (nxR s2 t (i + 1) = nxR s2 t i) := nxR_skip (Or.inr ht)
                    rw [hw1]
                    generalize hyE : s2.E i = y at *
                    generalize nxR s2 t i = nx at *
                    go_wp2
                    go_roundg (n - (i + 1))
                    case measure => have := hiH.out; omega
                    case rel => exact ⟨i + 1, max en2 y, lf, by first | exact int_wsucc hi2.out | exact int_succ i, by first | rfl | exact congrArg (Value.int .i64) (by split <;> omega), by rw [hnx.out], rfl, Nat.le_refl _, hiH.out, hen9, hlf9, hb10⟩
              · have hiz : ¬ (i : Int) < (n : Int) := by omega
                have e : i = n := by have := hin.out; omega
                have hallH : Hid (lf = false → ∀ j, j < n → s2.E j ≠ nvr) := fun h j hj h2 => by
                  have := hlf8.out.2 ⟨j, by omega, h2⟩
                  rw [h] at this; cases this
                have hB8 : Hid (Below gb w w8) := hB.out.trans (hb8.out.mono hgbq.out)
                have hR8 : Hid (Rk w8 gb gb n (aA s2) (aH s2)) := hR.out.below hb8.out
                have hen9 : Hid (EnB n s2 en2 ∧ ∀ j, j < n → s2.E j ≠ nvr → s2.E j ≤ en2) := ⟨hen8.out.1, fun j hj h => hen8.out.2 j (by omega) h⟩
                have hret : Hid ((∀ j, j < n → s2.E j ≠ nvr) → Run n m l (nm d) en2 s2 ∧ stk n m l en2 s2 ∧ nxF s2.E en2 n = nvr ∧ Rk w8 gb gb n s2.A s2.H) := fun hall => by
                  obtain ⟨h1, h2, h3⟩ := ref_end hrun.out.1 hgH.out hacH.out hDH.out hmH.out.1 hall hen9.out.1 hen9.out.2
                  exact ⟨h1, h2, h3, hR8.out.congr (fun j hj => by unfold aA; rw [if_neg (hall j hj)]) (fun j hj => by unfold aH; rw [if_neg (hall j hj)])⟩
                rw [e] at hgz8 ⊢
                cases lf with
                | false =>
                  have hr2 : Hid _ := hret.out (hallH.out rfl)
                  clear hret hallH hlf8 hen8 hgz8 hiz e
                  go_wp2
                  go_ret2
                  exact ⟨⟨en2, s2, gb, by rfl, hr2.out.1, hr2.out.2.1, hr2.out.2.2.1, (by rw [hgbH.out]; exact hr2.out.2.2.2)⟩, (by rw [hgbH.out]; exact hB8.out)⟩
                | true =>
                  have hlt : ∃ j, j < n ∧ s2.E j = nvr := by obtain ⟨j, h1, h2⟩ := hlf8.out.1 rfl; exact ⟨j, by omega, h2⟩
                  have hne : nxF s2.E t n ≠ nvr := fun e2 => by
                    obtain ⟨j, h1, h2⟩ := hlt
                    exact (hwin.out.all hgH.out hacH.out hDH.out ⟨hbt.out.1, by have := hbt.out; omega⟩ hmH.out.1 hst2.out e2 j h1).1 h2
                  have hx0 : ¬ nxR s2 t n < 0 := fun e2 => hne ((nxR_neg hbt.out.1).1 e2)
                  have hx0d : decide (nxR s2 t n < 0) = false := decide_eq_false hx0
                  have hxe : Hid (nxR s2 t n = nxF s2.E t n) := by show _ = _; unfold nxR; rw [if_neg hne]
                  have hrun3 : Hid (Run n m l (nm d) (nxF s2.E t n) s2) := hrun.out.1.tick hst2.out hne
                  have hct : Hid (ctE s2.E (nxF s2.E t n + 1) n < c0) := by have h1 := Run.lt hne; have h2 := hrun.out.2; show _ < _; omega
                  clear hlt hne hret hallH hlf8 hen8 hgz8 hiz e
                  rw [hxe.out] at hx0d hx0 ⊢
                  go_wp2
                  go_roundg (ctE s2.E (nxF s2.E t n + 1) n + 1)
                  case measure => have h1 := hct.out; have h2 := hc0H.out; omega
                  case rel => exact ⟨_, en2, s2, rfl, rfl, Nat.le_refl _, hrun3, hen9.out.1, hR8, hB8⟩
end Go.Proofs.YthfpdbogbmccjaaDoor
