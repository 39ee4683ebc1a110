/- path.earliest and path.spanOf. -/
import Derived.Test.YthfpdbogbmccjaaDoorPst
namespace Go.Proofs.YthfpdbogbmccjaaDoor
open Go.RowKit Gm Pm
set_option linter.unusedSectionVars false
set_option linter.unusedVariables false

/-- While those of the row's first k, and of the next one's first m edges, have been handed on. -/
structure ErI (l : List Ed) (D : Nat → Int) (R : List Nat) (n k m : Nat) (E : Nat → Int) : Prop where
  lo : ∀ j, j < n → 0 ≤ E j
  hi : ∀ j, j < n → E j ≤ 1000000000 * ((k : Int) + (if m = 0 then 0 else 1))
  old : ∀ j, j < n → j ∈ R.take k ∨ j = bn R k → E j ≤ 1000000000 * (k : Int)
  edge : ∀ i j, i ∈ R.take k → eB l i j = true → E i + D i ≤ E j
  now : ∀ j, j ∈ (suc l (bn R k)).take m → E (bn R k) + D (bn R k) ≤ E j
  why : ∀ j, j < n → E j = 0 ∨ ∃ i, eB l i j = true ∧ E j = E i + D i ∧ (i ∈ R.take k ∨ (i = bn R k ∧ 0 < m))
/-- A row in which each stands behind those ahead of it. -/
structure Tpo (l : List Ed) (n : Nat) (R : List Nat) : Prop where
  len : R.length = n
  lt : ∀ x ∈ R, x < n
  nd : R.Pairwise (· ≠ ·)
  ah : ∀ k (hk : k < R.length) j, eB l j R[k] = true → j ∈ R.take k
  all : ∀ j, j < n → j ∈ R
theorem Tpo.of {l : List Ed} {n : Nat} {R : List Nat} (hg : Grd (eB l) n R) (hl : R.length = n) (ha : ∀ j, j < n → j ∈ R) : Tpo l n R := ⟨hl, hg.lt, hg.nodup, hg.ahead, ha⟩
theorem take_bn {R : List Nat} {k : Nat} (hk : k < R.length) : R.take (k + 1) = R.take k ++ [bn R k] := by
  rw [bn_get hk, List.take_append_getElem]
theorem bn_mem {R : List Nat} {k : Nat} (hk : k < R.length) : bn R k ∈ R := by rw [bn_get hk]; exact List.getElem_mem hk
/-- Who stands behind one of the first is none of the first. -/
theorem Tpo.later {l : List Ed} {n : Nat} {R : List Nat} (h : Tpo l n R) {k : Nat} (hk : k < R.length) {j : Nat} (he : eB l (bn R k) j = true) (hj : j < n) : j ∉ R.take (k + 1) := by
  intro hm
  obtain ⟨q, hq, eq⟩ := List.getElem_of_mem hm
  have hqk : q < k + 1 := by simp at hq; omega
  have hqR : q < R.length := by omega
  have e3 : R[q] = j := by rw [← eq, List.getElem_take]
  have h2 := h.ah q hqR (bn R k) (by rw [e3]; exact he)
  obtain ⟨p, hp, ep⟩ := List.getElem_of_mem h2
  have hpq : p < q := by simp at hp; omega
  have e4 : R[p]'(by omega) = bn R k := by rw [← ep, List.getElem_take]
  have hn := h.nd
  rw [List.pairwise_iff_getElem] at hn
  exact hn p k (by omega) hk (by omega) (by rw [e4, bn_get hk])
theorem ErI.start {l : List Ed} {D : Nat → Int} {R : List Nat} {n : Nat} : ErI l D R n 0 0 (fun _ => 0) :=
  ⟨fun _ _ => Int.le_refl _, fun _ _ => by simp, fun _ _ _ => by simp, fun i j hi => by simp at hi, fun j hj => by simp at hj, fun _ _ => Or.inl rfl⟩
theorem ErI.step {l : List Ed} {D : Nat → Int} {R : List Nat} {n k m j : Nat} {E : Nat → Int} (hg : Gr n l) (hT : Tpo l n R) (hD : ∀ i, i < n → 0 ≤ D i ∧ D i ≤ 1000000000) (hk : k < n) (hm : m < (suc l (bn R k)).length) (hj : bn (suc l (bn R k)) m = j) (h : ErI l D R n k m E) :
    ErI l D R n k (m + 1) (fp E j (max (E j) (E (bn R k) + D (bn R k)))) ∧ j < n ∧ 0 ≤ E (bn R k) ∧ E (bn R k) ≤ 60000000000 := by
  have hkR : k < R.length := by rw [hT.len]; exact hk
  have hjm : j ∈ suc l (bn R k) := by rw [← hj, bn_get hm]; exact List.getElem_mem hm
  have he : eB l (bn R k) j = true := (mem_suc hg).1 hjm
  have hl := hg.lt he
  have hn60 := hg.n60
  have hnj : j ∉ R.take (k + 1) := hT.later hkR he hl.2
  rw [take_bn hkR] at hnj
  have hnj1 : j ∉ R.take k := fun x => hnj (List.mem_append_left _ x)
  have hnj2 : bn R k ≠ j := fun x => hnj (List.mem_append_right _ (by simp [x]))
  have hEi := h.lo (bn R k) hl.1
  have hEi2 := h.old (bn R k) hl.1 (Or.inr rfl)
  have hDi := hD (bn R k) hl.1
  have hfi : ∀ x, (x ∈ R.take k ∨ x = bn R k) → ∀ v, fp E j v x = E x := fun x hx v => fp_ne (fun e => by
    subst e
    rcases hx with hx | hx
    · exact hnj1 hx
    · exact hnj2 hx.symm)
  have hup : ∀ x, E x ≤ fp E j (max (E j) (E (bn R k) + D (bn R k))) x := fun x => by
    by_cases e : x = j
    · subst e; rw [fp_same]; omega
    · rw [fp_ne e]; exact Int.le_refl _
  refine ⟨⟨fun x hx => ?_, fun x hx => ?_, fun x hx hxo => ?_, fun i x hi hix => ?_, fun x hx => ?_, fun x hx => ?_⟩, hl.2, hEi, by omega⟩
  · have := hup x; have := h.lo x hx; omega
  · rw [if_neg (by omega)]
    have hh := h.hi x hx
    have hh2 : E x ≤ 1000000000 * ((k : Int) + 1) := by split at hh <;> omega
    by_cases e : x = j
    · subst e; rw [fp_same]; omega
    · rw [fp_ne e]; exact hh2
  · rw [hfi x hxo]; exact h.old x hx hxo
  · rw [hfi i (Or.inl hi)]
    have := h.edge i x hi hix
    have := hup x
    omega
  · rw [hfi (bn R k) (Or.inr rfl)]
    have ht : (suc l (bn R k)).take (m + 1) = (suc l (bn R k)).take m ++ [j] := by rw [take_bn hm, hj]
    rw [ht] at hx
    rcases List.mem_append.1 hx with hx | hx
    · have := h.now x hx
      have := hup x
      omega
    · obtain rfl := List.mem_singleton.1 hx
      rw [fp_same]; omega
  · by_cases e : x = j
    · subst e
      rw [fp_same]
      by_cases hmx : E x ≤ E (bn R k) + D (bn R k)
      · refine Or.inr ⟨bn R k, he, ?_, Or.inr ⟨rfl, by omega⟩⟩
        rw [hfi (bn R k) (Or.inr rfl)]
        omega
      · rw [show max (E x) (E (bn R k) + D (bn R k)) = E x by omega]
        rcases h.why x hx with h1 | ⟨i, h1, h2, h3⟩
        · exact Or.inl h1
        · refine Or.inr ⟨i, h1, ?_, ?_⟩
          · rw [hfi i (by rcases h3 with h3 | h3; exact Or.inl h3; exact Or.inr h3.1)]; exact h2
          · rcases h3 with h3 | h3
            · exact Or.inl h3
            · exact Or.inr ⟨h3.1, by omega⟩
    · rw [fp_ne e]
      rcases h.why x hx with h1 | ⟨i, h1, h2, h3⟩
      · exact Or.inl h1
      · refine Or.inr ⟨i, h1, ?_, ?_⟩
        · rw [hfi i (by rcases h3 with h3 | h3; exact Or.inl h3; exact Or.inr h3.1)]; exact h2
        · rcases h3 with h3 | h3
          · exact Or.inl h3
          · exact Or.inr ⟨h3.1, by omega⟩
theorem ErI.next {l : List Ed} {D : Nat → Int} {R : List Nat} {n k : Nat} {E : Nat → Int} (hg : Gr n l) (hT : Tpo l n R) (hk : k < n) (h : ErI l D R n k (suc l (bn R k)).length E) : ErI l D R n (k + 1) 0 E := by
  have hkR : k < R.length := by rw [hT.len]; exact hk
  refine ⟨h.lo, fun x hx => ?_, fun x hx _ => ?_, fun i x hi hix => ?_, fun x hx => by simp at hx, fun x hx => ?_⟩
  · have := h.hi x hx
    simp only [if_true]
    split at this <;> omega
  · have := h.hi x hx
    split at this <;> omega
  · rw [take_bn hkR] at hi
    rcases List.mem_append.1 hi with hi | hi
    · exact h.edge i x hi hix
    · obtain rfl := List.mem_singleton.1 hi
      exact h.now x (by rw [List.take_length]; exact (mem_suc hg).2 hix)
  · rcases h.why x hx with h1 | ⟨i, h1, h2, h3⟩
    · exact Or.inl h1
    · refine Or.inr ⟨i, h1, h2, Or.inl ?_⟩
      rw [take_bn hkR]
      rcases h3 with h3 | h3
      · exact List.mem_append_left _ h3
      · exact List.mem_append_right _ (by simp [h3.1])
theorem ErI.done {l : List Ed} {D : Nat → Int} {R : List Nat} {n : Nat} {E : Nat → Int} (hg : Gr n l) (hT : Tpo l n R) (h : ErI l D R n n 0 E) : Earl l D n E := by
  have e : R.take n = R := List.take_of_length_le (by rw [hT.len]; exact Nat.le_refl _)
  refine ⟨h.lo, fun i j hij => h.edge i j (by rw [e]; exact hT.all i (hg.lt hij).1) hij, fun j hj => ?_⟩
  rcases h.why j hj with h1 | ⟨i, h1, h2, _⟩
  · exact Or.inl h1
  · exact Or.inr ⟨i, h1, h2⟩
theorem wrap_small {x : Int} (h : -1000000000000 ≤ x ∧ x ≤ 1000000000000) : wrap64 x = x := by unfold wrap64; omega

set_option maxHeartbeats 2000000 in
set_option maxRecDepth 100000 in
theorem earliest_any {n : Nat} {w : World} {l : List Ed} {d : List Int} {R : List Nat} {B1 B2 gn : Nat} {pr pd : Option Addr} {cr cd : Nat} (hg : Gr n l) (hl : l.length ≤ 400) (hT : Tpo l n R) (hR : w.ownsRow B1 3 1 (.slice pr n cr) n (ints R)) (hN : Nx w B2 gn n (suc l)) (hd : Nums w pd d) (hdn : d.length = n) (hD : ∀ i, i < n → 0 ≤ nm d i ∧ nm d i ≤ 1000000000) :
    Calls Tryd.prog 23 #[.slice pr n cr, .slice (some ⟨gn, 0, none⟩) n n, .slice pd n cd] w fun e w' => e = .returned (.slice (some ⟨w.heap.size, 0, none⟩) n n) ∧ (∃ E, w'.ownsRow w.heap.size 2 1 (.slice (some ⟨w.heap.size, 0, none⟩) n n) n (numf E n) ∧ Earl l (nm d) n E) ∧ Below w.heap.size w w' := by
  have hgH : Hid (Gr n l) := hg
  have hlH : Hid (l.length ≤ 400) := hl
  have hnH : Hid (n ≤ 60) := hg.n60
  have hTH : Hid (Tpo l n R) := hT
  have hDH : Hid (∀ i, i < n → 0 ≤ nm d i ∧ nm d i ≤ 1000000000) := hD
  have hdnH : Hid (d.length = n) := hdn
  have hRb : Hid (∀ w1, Below w.heap.size w w1 → w1.ownsRow B1 3 1 (.slice pr n cr) n (ints R)) := fun w1 hb => row_below hR hb
  have hNb : Hid (∀ w1, Below w.heap.size w w1 → Nx w1 B2 gn n (suc l)) := fun w1 hb => hN.below hb
  have hdb : Hid (∀ w1, Below w.heap.size w w1 → Nums w1 pd d) := fun w1 hb => hd.below hb (Nat.le_refl _)
  have hgn : Hid (gn < w.heap.size) := hN.lt
  clear hg hl hT hR hN hd hdn hD
  go_enter Tryd.func23, Tryd.ntmps23
  go_wp2_with (first
    | (at_make; obtain ⟨i0, hi, hz0, hz1, hz2⟩ := info_parts info_i64; refine wpList_make_full _ rfl _ _ 23 rfl w.heap.size 2 i0 (.int .i64 0) 1 Tryd.underlying23 hi hz0 hz1 _ _ _ _ n rfl rfl rfl rfl (by rw [hz2]; have := hnH.out; omega) (by unfold maxLen; have := hnH.out; omega) (Nat.le_refl _) ?_; intro w1 hown1 hgrow1; clear hi hz0 hz1 hz2)
    | go_in)
  have hat1 : w1.ownsRow w.heap.size 2 1 (.slice (some ⟨w.heap.size, 0, none⟩) n n) n (numf (fun _ => 0) n) := by
    have e : (madeCells (Value.int .i64 0).cells (n * 1)).toList = numf (fun _ => 0) n := by
      rw [numf_zero, Nat.mul_one]
      exact toList_madeCells_one _ _
    rw [← e]; exact hown1
  have hB1 : Below w.heap.size w w1 := ⟨hgrow1.os, hgrow1.tape, hgrow1.output, hgrow1.size, fun k hk => hgrow1.block k hk (by simp)⟩
  clear hown1 hgrow1
  generalize hgb : w.heap.size = gb at *
  have hgbH : Hid (w.heap.size = gb) := hgb
  clear hgb
  go_loopw [17] (fun kv wr => ∃ (k : Nat) (E : Nat → Int), kv = .int .i64 k ∧ k ≤ n ∧ ErI l (nm d) R n k 0 E ∧ wr.ownsRow gb 2 1 (.slice (some ⟨gb, 0, none⟩) n n) n (numf E n) ∧ Below gb w wr)
    (fun kv _ => n - (intOf kv).toNat)
  case atStart => exact ⟨0, fun _ => 0, rfl, Nat.zero_le _, ErI.start, hat1, hB1⟩
  case round =>
    clear hat1 hB1
    obtain ⟨k, E, rfl, hkn, hI, hown, hbl⟩ := hrel
    by_cases hk : k < n
    · have hki : (k : Int) < (n : Int) := by omega
      have hkH : Hid (k < n) := hk
      have hk2 : Hid (k ≤ 100000) := by have := hnH.out; show _ ≤ _; omega
      obtain ⟨gr, rfl, r0, _⟩ := row_at (hRb.out wr hbl) hTH.out.len hk
      have hin : Hid (bn R k < n) := hTH.out.lt _ (bn_mem (by rw [hTH.out.len]; exact hk))
      obtain ⟨ps, cs, n0, n1⟩ := (hNb.out wr hbl).c (bn R k) hin.out
      have hblH : Hid (Below gb w wr) := hbl
      have hownH : Hid (wr.ownsRow gb 2 1 (.slice (some ⟨gb, 0, none⟩) n n) n (numf E n)) := hown
      have hIH : Hid (ErI l (nm d) R n k 0 E) := hI
      have hsl : Hid ((suc l (bn R k)).length ≤ 400) := by have := suc_len l (bn R k); have := hlH.out; show _ ≤ _; omega
      have hst : Hid (∀ m j E, m < (suc l (bn R k)).length → bn (suc l (bn R k)) m = j → ErI l (nm d) R n k m E → ErI l (nm d) R n k (m + 1) (fp E j (max (E j) (E (bn R k) + nm d (bn R k)))) ∧ j < n ∧ 0 ≤ E (bn R k) ∧ E (bn R k) ≤ 60000000000) := fun m j E h1 h2 h3 => h3.step hgH.out hTH.out hDH.out hkH.out h1 h2
      have hnx : Hid (∀ E, ErI l (nm d) R n k (suc l (bn R k)).length E → ErI l (nm d) R n (k + 1) 0 E) := fun E h => h.next hgH.out hTH.out hkH.out
      have hDi : Hid (0 ≤ nm d (bn R k) ∧ nm d (bn R k) ≤ 1000000000) := hDH.out _ hin.out
      have hcell : Hid (∀ w1, Below gb w w1 → ∃ b o, pd = some ⟨b, o, none⟩ ∧ w1.cell? ⟨b, o + bn R k, none⟩ = some (.int .i64 (nm d (bn R k)))) := fun w1 hb => by
        rcases hdb.out w1 hb with h0 | ⟨b, o, e, hA⟩
        · have := hdnH.out; omega
        · exact ⟨b, o, e, hA.c _ (by have := hdnH.out; have := hin.out; omega)⟩
      have hrow : Hid (∀ w1, Below gb w w1 → w1.ownsRow B2 3 1 (.slice ps (suc l (bn R k)).length cs) (suc l (bn R k)).length (ints (suc l (bn R k)))) := fun w1 hb => by
        obtain ⟨p', c', h1, h2⟩ := (hNb.out w1 hb).c (bn R k) hin.out
        have e1 : w1.cell? ⟨gn, bn R k, none⟩ = wr.cell? ⟨gn, bn R k, none⟩ := by
          have hgl : gn < gb := hgn.out
          rw [hb.cell (p := ⟨gn, bn R k, none⟩) hgl, hblH.out.cell (p := ⟨gn, bn R k, none⟩) hgl]
        rw [h1, n0] at e1
        obtain ⟨rfl, rfl⟩ : p' = ps ∧ c' = cs := by simpa using e1
        exact h2
      clear hbl hown hI n1
      generalize bn R k = i at *
      generalize suc l i = L at *
      generalize nm d i = x at *
      obtain ⟨a, ha⟩ : ∃ a, L.length = a := ⟨_, rfl⟩
      rw [ha] at n0 hsl hst hnx hrow
      have haH : Hid (L.length = a) := ha
      clear ha
      have hii : (i : Int) < (n : Int) := by have := hin.out; omega
      have hi0 : ¬ (i : Int) < 0 := by omega
      have hig : ¬ (n : Int) ≤ (i : Int) := by omega
      go_wp2
      go_loopw [26] (fun mv wm => ∃ (m : Nat) (E : Nat → Int), mv = .int .i64 m ∧ m ≤ a ∧ ErI l (nm d) R n k m E ∧ wm.ownsRow gb 2 1 (.slice (some ⟨gb, 0, none⟩) n n) n (numf E n) ∧ Below gb w wm)
        (fun mv _ => a - (intOf mv).toNat)
      case atStart => exact ⟨0, E, rfl, Nat.zero_le _, hIH.out, hownH.out, hblH.out⟩
      case round =>
        clear hIH hownH hblH r0 n0
        rename World => wm
        obtain ⟨m, E, rfl, hma, hI, hown, hbl⟩ := hrel
        by_cases hm : m < a
        · have hmi : (m : Int) < (a : Int) := by omega
          have hm2 : Hid (m ≤ 100000) := by have := hsl.out; show _ ≤ _; omega
          obtain ⟨gs, rfl, s0, _⟩ := row_at (hrow.out wm hbl) haH.out hm
          obtain ⟨h1, hjn, he0, he1⟩ := hst.out m _ E hm rfl hI
          obtain ⟨b, o, rfl, d0⟩ := hcell.out wm hbl
          generalize bn L m = j at *
          have y0 : wm.cell? ⟨gb, j, none⟩ = some (.int .i64 (E j)) := by rw [hown.cellAt j (by omega), numf_get hjn]
          have y1 : wm.cell? ⟨gb, i, none⟩ = some (.int .i64 (E i)) := by rw [hown.cellAt i (by have := hin.out; omega), numf_get hin.out]
          have f0 := owns_frz hown j
          have hji : (j : Int) < (n : Int) := by omega
          have hj0 : ¬ (j : Int) < 0 := by omega
          have hjg : ¬ (n : Int) ≤ (j : Int) := by omega
          have hws : Hid (IntKind.i64.wrap (E i + x) = E i + x) := by have := hDi.out; show _ = _; rw [IntKind.wrap_i64]; omega
          have hownH : Hid (wm.ownsRow gb 2 1 (.slice (some ⟨gb, 0, none⟩) n n) n (numf E n)) := hown
          have hblH : Hid (Below gb w wm) := hbl
          have hIH : Hid (ErI l (nm d) R n k (m + 1) (fp E j (max (E j) (E i + x)))) := h1
          clear hown hbl hI h1 he0 he1
          go_wp2
          refine wp_region_still_tail 16 (by kernel_rfl) (by kernel_rfl) ?_
          simp only [List.take_succ_cons, List.take_zero, List.drop_succ_cons, List.drop_zero]
          repeat (first | still_step)
          refine wpStill_nil ?_
          rw [hws.out]
          change wpList _ _ _ _ _ (World.drew wm)
          have y0d : wm.drew.cell? ⟨gb, j, none⟩ = some (.int .i64 (E j)) := y0
          have f0d : wm.drew.frozen? ⟨gb, j, none⟩ = false := f0
          clear y0 y1 f0 s0 d0
          go_wp2
          refine ⟨⟨m + 1, _, ?_, hm, hIH.out, ?_, ?_⟩, ?_⟩
          · first | exact int_succ m | exact int_wsucc hm2.out
          · rw [← numf_set]; exact owns_store (w := wm.drew) hownH.out _
          · exact hblH.out.drew.setCell (Nat.le_refl gb) _
          · first | exact meas_1 hm | exact meas_w hm hm2.out
        · have hmi : ¬ (m : Int) < (a : Int) := by omega
          have e : m = a := by omega
          subst e
          have h2 : Hid (ErI l (nm d) R n (k + 1) 0 E) := hnx.out E hI
          clear hnx hst hcell hrow hI
          go_wp2
          refine ⟨⟨k + 1, E, ?_, hkH.out, h2.out, hown, hbl⟩, ?_⟩
          · first | exact int_succ k | exact int_wsucc hk2.out
          · first | exact meas_1 hkH.out | exact meas_w hkH.out hk2.out
    · have hki : ¬ (k : Int) < (n : Int) := by omega
      have e : k = n := by omega
      subst e
      have hE : Hid (Earl l (nm d) k E) := hI.done hgH.out hTH.out
      clear hI hRb hNb hdb
      go_wp2
      go_ret
      rw [hgbH.out]
      exact ⟨rfl, ⟨E, hown, hE.out⟩, hbl⟩

/-- The span, as far as it was looked for. -/
structure SpI (E D : Nat → Int) (k : Nat) (S : Int) : Prop where
  lo : 0 ≤ S
  hi : S ≤ 100000000000
  up : ∀ i, i < k → E i + D i ≤ S
  why : S = 0 ∨ ∃ i, i < k ∧ S = E i + D i
theorem SpI.step {E D : Nat → Int} {k : Nat} {S : Int} (h : SpI E D k S) (hb : E k + D k ≤ 100000000000) : SpI E D (k + 1) (max S (E k + D k)) := by
  refine ⟨by have := h.lo; omega, by have := h.hi; omega, fun i hi => ?_, ?_⟩
  · by_cases e : i = k
    · subst e; omega
    · have := h.up i (by omega); omega
  · by_cases hm : S ≤ E k + D k
    · exact Or.inr ⟨k, by omega, by omega⟩
    · rw [show max S (E k + D k) = S by omega]
      rcases h.why with h1 | ⟨i, h1, h2⟩
      · exact Or.inl h1
      · exact Or.inr ⟨i, by omega, h2⟩

set_option maxHeartbeats 1000000 in
set_option maxRecDepth 100000 in
theorem spanOf_any {n : Nat} {w : World} {d : List Int} {E : Nat → Int} {B1 : Nat} {pe pd : Option Addr} {ce' cd : Nat} (hn : n ≤ 60) (hE : w.ownsRow B1 2 1 (.slice pe n ce') n (numf E n)) (hd : Nums w pd d) (hdn : d.length = n) (hb : ∀ i, i < n → 0 ≤ E i ∧ E i + nm d i ≤ 100000000000 ∧ 0 ≤ nm d i) :
    Calls Tryd.prog 24 #[.slice pe n ce', .slice pd n cd] w fun e w' => (∃ S, e = .returned (.int .i64 S) ∧ Spn E (nm d) n S) ∧ Below w.heap.size w w' := by
  have hnH : Hid (n ≤ 60) := hn
  have hbH : Hid (∀ i, i < n → 0 ≤ E i ∧ E i + nm d i ≤ 100000000000 ∧ 0 ≤ nm d i) := hb
  have hdnH : Hid (d.length = n) := hdn
  clear hn hb hdn
  go_enter Tryd.func24, Tryd.ntmps24
  go_wp2
  go_loopw [5, 9] (fun sv iv wr => ∃ (k : Nat) (S : Int), iv = .int .i64 k ∧ sv = .int .i64 S ∧ k ≤ n ∧ SpI E (nm d) k S ∧ Below w.heap.size w wr)
    (fun _ iv _ => n - (intOf iv).toNat)
  case atStart => exact ⟨0, 0, rfl, rfl, Nat.zero_le _, ⟨Int.le_refl _, by omega, fun i hi => absurd hi (by omega), Or.inl rfl⟩, Below.refl _ _⟩
  case round =>
    obtain ⟨k, S, rfl, rfl, hkn, hI, hbl⟩ := hrel
    by_cases hk : k < n
    · have hki : (k : Int) < (n : Int) := by omega
      have hk2 : Hid (k ≤ 100000) := by have := hnH.out; show _ ≤ _; omega
      obtain ⟨g, rfl, y0, _⟩ := row_num (row_below hE hbl) hk
      rcases hd.below hbl (Nat.le_refl _) with h0 | ⟨b, o, rfl, hA⟩
      · have := hdnH.out; omega
      have d0 := hA.c k (by have := hdnH.out; omega)
      have hbk := hbH.out k hk
      have h1 : Hid (SpI E (nm d) (k + 1) (max S (E k + nm d k))) := hI.step hbk.2.1
      have hws : Hid (wrap64 (E k + nm d k) = E k + nm d k) := wrap_small (by omega)
      have hk0 : ¬ (k : Int) < 0 := by omega
      have hkg : ¬ (n : Int) ≤ (k : Int) := by omega
      clear hI hA hbk hE hd
      generalize nm d k = x at *
      generalize E k = y at *
      go_wp2
      go_quiet (fail)
      rw [hws.out]
      go_wp2
      refine ⟨⟨k + 1, _, ?_, rfl, hk, h1.out, drewN_below hbl nq⟩, ?_⟩
      · first | exact int_succ k | exact int_wsucc hk2.out
      · first | exact meas_1 hk | exact meas_w hk hk2.out
    · have hki : ¬ (k : Int) < (n : Int) := by omega
      have e : k = n := by omega
      subst e
      have hS : Hid (Spn E (nm d) k S) := ⟨hI.lo, hI.up, hI.why⟩
      clear hI hE hd
      go_wp2
      go_ret
      exact ⟨⟨S, rfl, hS.out⟩, hbl⟩
end Go.Proofs.YthfpdbogbmccjaaDoor
