/- Package list: how the work lies in memory; its method ready, by the library's ContainsFunc. -/
import Derived.Test.YthfpdbogbmccjaaDoorJwc
import Derived.Deep.Cut
namespace Go.Proofs.YthfpdbogbmccjaaDoor
open Go.RowKit Gm Pm
set_option linter.unusedSectionVars false
set_option linter.unusedVariables false

/-- The work lies in memory: its five slices, the rows of those ahead, the jobs' times; when they end, when the hands are free, the turns. -/
structure Wk (w : World) (g0 gp gA gE gF gT B : Nat) (pd : Option Addr) (cd n m : Nat) (l : List Ed) (d : List Int) (s : Wst) : Prop where
  c0 : w.cell? ⟨gp, 0, none⟩ = some (.slice pd n cd)
  c1 : w.cell? ⟨gp, 1, none⟩ = some (.slice (some ⟨gA, 0, none⟩) n n)
  c2 : w.cell? ⟨gp, 2, none⟩ = some (.slice (some ⟨gE, 0, none⟩) n n)
  c3 : w.cell? ⟨gp, 3, none⟩ = some (.slice (some ⟨gF, 0, none⟩) m m)
  c4 : w.cell? ⟨gp, 4, none⟩ = some (.slice (some ⟨gT, 0, none⟩) n n)
  lt : gp < w.heap.size ∧ gA < w.heap.size ∧ gE < w.heap.size ∧ gF < w.heap.size ∧ gT < w.heap.size
  lo : g0 ≤ gp ∧ g0 ≤ gA ∧ g0 ≤ gE ∧ g0 ≤ gF ∧ g0 ≤ gT ∧ gE < B ∧ gF < B ∧ gT < B
  ap : gp ≠ gE ∧ gp ≠ gF ∧ gp ≠ gT ∧ gA ≠ gE ∧ gA ≠ gF ∧ gA ≠ gT ∧ gE ≠ gF ∧ gE ≠ gT ∧ gF ≠ gT
  nx : Nx w B gA n (suc (trn l))
  dl : d.length = n
  dn : ∀ i, i < n → ∃ b o, pd = some ⟨b, o, none⟩ ∧ b < g0 ∧ w.cell? ⟨b, o + i, none⟩ = some (.int .i64 (nm d i))
  E : w.ownsRow g0 2 1 (.slice (some ⟨gE, 0, none⟩) n n) n (numf s.E n)
  F : w.ownsRow g0 2 1 (.slice (some ⟨gF, 0, none⟩) m m) m (numf s.F m)
  T : ∀ i, i < n → w.cell? ⟨gT, i * 2, none⟩ = some (.int .i64 (s.A i)) ∧ w.cell? ⟨gT, i * 2 + 1, none⟩ = some (.int .i64 (s.H i)) ∧ w.frozen? ⟨gT, i * 2, none⟩ = false ∧ w.frozen? ⟨gT, i * 2 + 1, none⟩ = false
theorem frozen_of_block {w w' : World} {g j : Nat} (h : w'.heap[g]? = w.heap[g]?) : w'.frozen? ⟨g, j, none⟩ = w.frozen? ⟨g, j, none⟩ := by
  unfold World.frozen?
  rw [h]
theorem Wk.below {w w' : World} {g0 gp gA gE gF gT B : Nat} {pd : Option Addr} {cd n m : Nat} {l : List Ed} {d : List Int} {s : Wst} (h : Wk w g0 gp gA gE gF gT B pd cd n m l d s) (hb : Below w.heap.size w w') : Wk w' g0 gp gA gE gF gT B pd cd n m l d s := by
  obtain ⟨l1, l2, l3, l4, l5⟩ := h.lt
  have hs := hb.size
  have cl : ∀ {b o : Nat} {v : Value}, b < w.heap.size → w.cell? ⟨b, o, none⟩ = some v → w'.cell? ⟨b, o, none⟩ = some v := fun {b o v} hlt he => (hb.cell (p := ⟨b, o, none⟩) hlt).trans he
  refine ⟨cl l1 h.c0, cl l1 h.c1, cl l1 h.c2, cl l1 h.c3, cl l1 h.c4, ⟨by omega, by omega, by omega, by omega, by omega⟩, h.lo, h.ap, h.nx.below hb, h.dl, fun i hi => ?_, row_below h.E hb, row_below h.F hb, fun i hi => ?_⟩
  · obtain ⟨b, o, e, hlt, hc⟩ := h.dn i hi
    exact ⟨b, o, e, hlt, cl (by have := h.lo.1; omega) hc⟩
  · obtain ⟨t1, t2, t3, t4⟩ := h.T i hi
    have hbk := hb.block gT l5
    exact ⟨cl l5 t1, cl l5 t2, (frozen_of_block hbk).trans t3, (frozen_of_block hbk).trans t4⟩

set_option maxHeartbeats 1000000 in
theorem ready1_any {w : World} {g0 gp gA gE gF gT B : Nat} {pd : Option Addr} {cd n m : Nat} {l : List Ed} {d : List Int} {s : Wst} (h : Wk w g0 gp gA gE gF gT B pd cd n m l d s) (hn : n ≤ 60) {bp bt : Nat} {t : Int} {k : Nat} (hk : k < n) (hp : w.cell? ⟨bp, 0, none⟩ = some (.pointer (some ⟨gp, 0, none⟩))) (ht : w.cell? ⟨bt, 0, none⟩ = some (.int .i64 t)) :
    Calls Tryd.prog 49 #[.int .i64 (k : Int), .pointer (some ⟨bp, 0, none⟩), .pointer (some ⟨bt, 0, none⟩)] w fun e w' => e = .returned (.bool (decide (t < s.E k))) ∧ Below w.heap.size w w' := by
  have c2 := h.c2
  have cE : w.cell? ⟨gE, k, none⟩ = some (.int .i64 (s.E k)) := by rw [h.E.cellAt k (by omega), numf_get hk]
  have hki : (k : Int) < (n : Int) := by omega
  have hk0 : ¬ (k : Int) < 0 := by omega
  have hkg : ¬ (n : Int) ≤ (k : Int) := by omega
  clear h
  generalize s.E k = x at *
  go_enter Tryd.func49, Tryd.ntmps49
  go_wp2
  go_quiet (fail)
  go_wp2
  go_ret
  exact ⟨by first | rfl | simp, drewN_below (Below.refl _ _) nq⟩

set_option maxHeartbeats 1000000 in
set_option maxRecDepth 100000 in
theorem indexF_rdy (f : Nat → Bool) (bp bt : Nat) {w : World} {p : Option Addr} {L : List Nat} {a c B : Nat} (h : w.ownsRow B 3 1 (.slice p a c) a (ints L)) (ha : L.length = a) (hlen : a ≤ 400)
    (hf : ∀ x, x ∈ L → ∀ w1, Below w.heap.size w w1 → Calls Tryd.prog 49 #[.int .i64 (x : Int), .pointer (some ⟨bp, 0, none⟩), .pointer (some ⟨bt, 0, none⟩)] w1 fun e w' => e = .returned (.bool (f x)) ∧ Below w1.heap.size w1 w') :
    Calls Tryd.prog 51 #[.slice p a c, .func (.func 49) #[] #[.pointer (some ⟨bp, 0, none⟩), .pointer (some ⟨bt, 0, none⟩)]] w fun e w' => (∃ z : Int, e = .returned (.int .i64 z) ∧ (0 ≤ z ↔ L.any f = true)) ∧ Below w.heap.size w w' := by
  have hlen' : Hid (a ≤ 400) := hlen
  have haH : Hid (L.length = a) := ha
  have hfH : Hid (∀ x, x ∈ L → ∀ w1, Below w.heap.size w w1 → Calls Tryd.prog 49 #[.int .i64 (x : Int), .pointer (some ⟨bp, 0, none⟩), .pointer (some ⟨bt, 0, none⟩)] w1 fun e w' => e = .returned (.bool (f x)) ∧ Below w1.heap.size w1 w') := hf
  clear hlen hf ha
  go_enter Tryd.func51, Tryd.ntmps51
  go_wp2
  go_loopw [8] (fun iv wr => ∃ j : Nat, iv = .int .i64 j ∧ j ≤ a ∧ Hid ((L.take j).any f = false) ∧ Below w.heap.size w wr)
    (fun iv _ => a - (intOf iv).toNat)
  case atStart => exact ⟨0, rfl, Nat.zero_le _, rfl, Below.refl _ _⟩
  case round =>
    obtain ⟨j, rfl, hjl, hall, hbl⟩ := hrel
    by_cases hj : j < a
    · obtain ⟨g, rfl, z0, _⟩ := row_at (row_below h hbl) haH.out hj
      have hjL : j < L.length := by rw [haH.out]; exact hj
      have hf1 := hfH.out (bn L j) (bn_mem hjL) wr hbl
      have hblH : Hid (Below w.heap.size w wr) := hbl
      have hji : (j : Int) < (a : Int) := by omega
      have hj2 : Hid (j ≤ 100000) := by have := hlen'.out; show _ ≤ _; omega
      have hyes : Hid (f (bn L j) = true → L.any f = true) := fun h2 => List.any_eq_true.2 ⟨_, bn_mem hjL, h2⟩
      have hno : Hid (f (bn L j) = false → (L.take (j + 1)).any f = false) := fun h2 => by
        rw [take_bn hjL, List.any_append, hall.out]
        simp [h2]
      clear hall hfH h hbl
      generalize f (bn L j) = s at *
      generalize bn L j = x at *
      cases s with
      | true =>
        have hy2 : Hid _ := hyes.out rfl
        clear hyes hno
        go_wp2_with (first
          | (go_at_call 49; refine hf1.mono ?_; rintro e w2 ⟨rfl, hb2⟩; have hb2H : Hid (Below w.heap.size w w2) := hblH.out.trans (hb2.mono hblH.out.size); clear hf1 hb2 z0)
          | go_in)
        go_ret
        exact ⟨⟨_, rfl, fun _ => hy2.out, fun _ => by omega⟩, hb2H.out⟩
      | false =>
        have hn2 : Hid _ := hno.out rfl
        clear hyes hno
        go_wp2_with (first
          | (go_at_call 49; refine hf1.mono ?_; rintro e w2 ⟨rfl, hb2⟩; have hb2H : Hid (Below w.heap.size w w2) := hblH.out.trans (hb2.mono hblH.out.size); clear hf1 hb2 z0)
          | go_in)
        refine ⟨⟨j + 1, ?_, hj, hn2, hb2H.out⟩, ?_⟩
        · first | exact int_succ j | exact int_wsucc hj2.out
        · first | exact meas_1 hj | exact meas_w hj hj2.out
    · have hji : ¬ (j : Int) < (a : Int) := by omega
      have e : j = a := by omega
      subst e
      have hy2 : Hid (L.any f = false) := by have := hall.out; rwa [List.take_of_length_le (by have := haH.out; omega)] at this
      clear hall hfH h
      go_wp2
      go_ret
      exact ⟨⟨_, rfl, fun h => absurd h (by omega), fun h => by have h2 : L.any f = true := by simpa using h
                                                                rw [hy2.out] at h2; cases h2⟩, hbl⟩

set_option maxRecDepth 100000 in
theorem containsF_rdy (f : Nat → Bool) (bp bt : Nat) {w : World} {p : Option Addr} {L : List Nat} {a c B : Nat} (h : w.ownsRow B 3 1 (.slice p a c) a (ints L)) (ha : L.length = a) (hlen : a ≤ 400)
    (hf : ∀ x, x ∈ L → ∀ w1, Below w.heap.size w w1 → Calls Tryd.prog 49 #[.int .i64 (x : Int), .pointer (some ⟨bp, 0, none⟩), .pointer (some ⟨bt, 0, none⟩)] w1 fun e w' => e = .returned (.bool (f x)) ∧ Below w1.heap.size w1 w') :
    Calls Tryd.prog 48 #[.slice p a c, .func (.func 49) #[] #[.pointer (some ⟨bp, 0, none⟩), .pointer (some ⟨bt, 0, none⟩)]] w fun e w' => e = .returned (.bool (L.any f)) ∧ Below w.heap.size w w' := by
  have hi := indexF_rdy f bp bt (c := c) h ha hlen hf
  clear h hlen hf ha
  go_enter Tryd.func48, Tryd.ntmps48
  go_wp2_with (first | (go_at_call 51; refine hi.mono ?_; rintro e w' ⟨⟨z, rfl, hz⟩, hb⟩; have hbH : Hid (Below w.heap.size w w') := hb; have hzH : Hid (0 ≤ z ↔ L.any f = true) := hz; clear hz hi hb) | go_in)
  go_ret
  refine ⟨ret_b ?_, hbH.out⟩
  by_cases h0 : 0 ≤ z
  · rw [hzH.out.1 h0]; simpa using h0
  · have : L.any f = false := by
      cases e : L.any f
      · rfl
      · exact absurd (hzH.out.2 e) h0
    rw [this]; simpa using h0

theorem gr_trn {n : Nat} {l : List Ed} (hg : Gr n l) : Gr n (trn l) := ⟨hg.n60, fun e he => by
  obtain ⟨x, hx, rfl⟩ := List.mem_map.1 he
  have := hg.ok x hx
  exact ⟨this.2.2.1, this.2.2.2, this.1, this.2.1⟩⟩
/-- Whether a job is ready. -/
def rdB (l : List Ed) (t : Int) (s : Wst) (i : Nat) : Bool := decide (s.E i = nvr) && !((suc (trn l) i).any fun k => decide (t < s.E k))
theorem rdB_is {n : Nat} {l : List Ed} (hg : Gr n l) {t : Int} {s : Wst} {i : Nat} : rdB l t s i = true ↔ rdy l t s i := by
  unfold rdB rdy
  rw [Bool.and_eq_true, decide_eq_true_iff, Bool.not_eq_true', List.any_eq_false]
  refine and_congr_right fun _ => ⟨fun h k hk => ?_, fun h k hk => ?_⟩
  · have := h k ((mem_suc (gr_trn hg)).2 (by rw [eB_trn]; exact hk))
    simp at this
    omega
  · have h1 := (mem_suc (gr_trn hg)).1 hk
    rw [eB_trn] at h1
    have := h k h1
    simp
    omega

set_option maxHeartbeats 1000000 in
set_option maxRecDepth 100000 in
theorem ready_any {w : World} {g0 gp gA gE gF gT B : Nat} {pd : Option Addr} {cd n m : Nat} {l : List Ed} {d : List Int} {s : Wst} (h : Wk w g0 gp gA gE gF gT B pd cd n m l d s) (hg : Gr n l) (hl : l.length ≤ 400) (t : Int) {i : Nat} (hi : i < n) :
    Calls Tryd.prog 40 #[.pointer (some ⟨gp, 0, none⟩), .int .i64 (i : Int), .int .i64 t] w fun e w' => e = .returned (.bool (rdB l t s i)) ∧ Below w.heap.size w w' := by
  have hwA : Hid (Wk ((w.alloc (.cells #[.pointer (some ⟨gp, 0, none⟩)] 40)).alloc (.cells #[.int .i64 t] 2)) g0 gp gA gE gF gT B pd cd n m l d s) := h.below (((Below.refl _ _).alloc (Nat.le_refl _) _).alloc (by simp) _)
  have hbA : Hid (Below w.heap.size w ((w.alloc (.cells #[.pointer (some ⟨gp, 0, none⟩)] 40)).alloc (.cells #[.int .i64 t] 2))) := ((Below.refl _ _).alloc (Nat.le_refl _) _).alloc (by simp) _
  have kb1 : Hid (((w.alloc (.cells #[.pointer (some ⟨gp, 0, none⟩)] 40)).alloc (.cells #[.int .i64 t] 2)).cell? ⟨w.heap.size, 0, none⟩ = some (.pointer (some ⟨gp, 0, none⟩))) := (((Below.refl (w.alloc (.cells #[.pointer (some ⟨gp, 0, none⟩)] 40)).heap.size (w.alloc (.cells #[.pointer (some ⟨gp, 0, none⟩)] 40))).alloc (Nat.le_refl _) (.cells #[.int .i64 t] 2)).cell (p := ⟨w.heap.size, 0, none⟩) (by simp)).trans (alloc2 w _ _)
  have kb2 : Hid (((w.alloc (.cells #[.pointer (some ⟨gp, 0, none⟩)] 40)).alloc (.cells #[.int .i64 t] 2)).cell? ⟨w.heap.size + 1, 0, none⟩ = some (.int .i64 t)) := by
    have h2 := alloc2 (w.alloc (.cells #[.pointer (some ⟨gp, 0, none⟩)] 40)) 2 (.int .i64 t)
    rwa [show (w.alloc (.cells #[.pointer (some ⟨gp, 0, none⟩)] 40)).heap.size = w.heap.size + 1 by simp] at h2
  have hnx : Hid (∀ w1, Below w.heap.size w w1 → ∃ p c, w1.cell? ⟨gA, i, none⟩ = some (.slice p (suc (trn l) i).length c) ∧ w1.ownsRow B 3 1 (.slice p (suc (trn l) i).length c) (suc (trn l) i).length (ints (suc (trn l) i))) := fun w1 hb => (h.below hb).nx.c i hi
  obtain ⟨pi, ci, x1, hrow⟩ := hnx.out _ hbA.out
  have hlen : (suc (trn l) i).length ≤ 400 := by have := suc_len (trn l) i; rw [trn_len] at this; omega
  have c2 := hwA.out.c2
  have c1 := hwA.out.c1
  have cE : (((w.alloc (.cells #[.pointer (some ⟨gp, 0, none⟩)] 40)).alloc (.cells #[.int .i64 t] 2))).cell? ⟨gE, i, none⟩ = some (.int .i64 (s.E i)) := by rw [hwA.out.E.cellAt i (by omega), numf_get hi]
  have hcf : Hid (Calls Tryd.prog 48 #[.slice pi (suc (trn l) i).length ci, .func (.func 49) #[] #[.pointer (some ⟨w.heap.size, 0, none⟩), .pointer (some ⟨w.heap.size + 1, 0, none⟩)]] ((w.alloc (.cells #[.pointer (some ⟨gp, 0, none⟩)] 40)).alloc (.cells #[.int .i64 t] 2)) fun e w' => e = .returned (.bool ((suc (trn l) i).any fun k => decide (t < s.E k))) ∧ Below ((w.alloc (.cells #[.pointer (some ⟨gp, 0, none⟩)] 40)).alloc (.cells #[.int .i64 t] 2)).heap.size ((w.alloc (.cells #[.pointer (some ⟨gp, 0, none⟩)] 40)).alloc (.cells #[.int .i64 t] 2)) w') := by
    refine containsF_rdy _ _ _ hrow rfl hlen fun x hx w1 hb => ?_
    have hxn : x < n := by have h1 := (mem_suc (gr_trn hg)).1 hx; rw [eB_trn] at h1; exact (hg.lt h1).1
    refine ready1_any (hwA.out.below hb) hg.n60 hxn ?_ ?_
    · exact (hb.cell (p := ⟨w.heap.size, 0, none⟩) (by simp; omega)).trans kb1.out
    · exact (hb.cell (p := ⟨w.heap.size + 1, 0, none⟩) (by simp)).trans kb2.out
  have hii : (i : Int) < (n : Int) := by omega
  have hi0 : ¬ (i : Int) < 0 := by omega
  have hig : ¬ (n : Int) ≤ (i : Int) := by omega
  have kb1' := kb1.out
  have hszH : Hid (w.heap.size ≤ ((w.alloc (.cells #[.pointer (some ⟨gp, 0, none⟩)] 40)).alloc (.cells #[.int .i64 t] 2)).heap.size) := hbA.out.size
  clear hnx hrow hwA h kb1 kb2
  unfold rdB
  generalize ((suc (trn l) i).any fun k => decide (t < s.E k)) = y at *
  generalize s.E i = x at *
  generalize hW : (w.alloc (.cells #[.pointer (some ⟨gp, 0, none⟩)] 40)).alloc (.cells #[.int .i64 t] 2) = W at *
  have hWH : Hid (W = (w.alloc (.cells #[.pointer (some ⟨gp, 0, none⟩)] 40)).alloc (.cells #[.int .i64 t] 2)) := hW.symm
  clear hW
  by_cases hx : x = 9223372036854775807
  · subst hx
    go_enter Tryd.func40, Tryd.ntmps40
    go_upto_region 1 with fail
    rw [← hWH.out]
    go_wp2_with (first
      | (go_at_call 48; refine hcf.out.mono ?_; rintro e w2 ⟨rfl, hb2⟩; have hb2H : Hid (Below w.heap.size w w2) := hbA.out.trans (hb2.mono hszH.out); clear hcf hb2)
      | go_in)
    go_ret
    exact ⟨ret_b (by simp), hb2H.out⟩
  · go_enter Tryd.func40, Tryd.ntmps40
    go_upto_region 1 with fail
    rw [← hWH.out]
    clear hcf
    go_wp2
    go_ret
    exact ⟨ret_b (by simp), hbA.out⟩
end Go.Proofs.YthfpdbogbmccjaaDoor
