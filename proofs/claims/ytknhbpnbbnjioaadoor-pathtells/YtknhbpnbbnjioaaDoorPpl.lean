/- The reference's PlanOf. -/
import Derived.Test.YtknhbpnbbnjioaaDoorPrf
namespace Go.Proofs.YtknhbpnbbnjioaaDoor
open Go.RowKit Gm Pm
set_option linter.unusedSectionVars false
set_option linter.unusedVariables false

/-- A sum over things, of what each is told. -/
def sF (F : Nat → Int → Nat) (X : Nat → Int) : Nat → Nat
  | 0 => 0
  | n + 1 => sF F X n + F n (X n)
theorem sF_congr {F : Nat → Int → Nat} {X Y : Nat → Int} : ∀ {n : Nat}, (∀ j, j < n → X j = Y j) → sF F X n = sF F Y n
  | 0, _ => rfl
  | n + 1, h => by rw [sF, sF, sF_congr (n := n) (fun j hj => h j (by omega)), h n (by omega)]
theorem sF_upd {F : Nat → Int → Nat} {X : Nat → Int} {t : Nat} {v : Int} (hv : F t v < F t (X t)) : ∀ {n : Nat}, t < n → sF F (fp X t v) n < sF F X n
  | n + 1, ht => by
    rw [sF, sF]
    by_cases e : t = n
    · subst e
      rw [sF_congr (Y := X) (fun j hj => fp_ne (by omega)), fp_same]
      omega
    · have := sF_upd (n := n) hv (by omega)
      rw [fp_ne (fun x => e x.symm)]
      omega
def rdC (w : World) (g j : Nat) : Int := match w.cell? ⟨g, j, none⟩ with | some (.int _ v) => v | _ => 0
theorem sF_row {w : World} {B g n c : Nat} {t : TypeId} {X : Nat → Int} (F : Nat → Int → Nat) (h : w.ownsRow B t 1 (.slice (some ⟨g, 0, none⟩) n c) n (numf X n)) : sF F (rdC w g) n = sF F X n := sF_congr fun j hj => by
  unfold rdC
  rw [h.cellAt j (by omega), numf_get hj]
def boN : Value → Nat
  | .bool true => 1
  | _ => 0

/-- What has been made so far: the rows, the box. -/
structure PS (wa w' : World) (N : Nat) (oE oL oP : Option Nat) : Prop where
  bl : Below wa.heap.size wa w'
  e : ∀ g, oE = some g → w'.ownsRow wa.heap.size 2 1 (.slice (some ⟨g, 0, none⟩) N N) N (numf (fun _ => 0) N)
  l : ∀ g, oL = some g → w'.ownsRow wa.heap.size 2 1 (.slice (some ⟨g, 0, none⟩) N N) N (numf (fun _ => 0) N)
  p : ∀ g, oP = some g → w'.heap[g]? = some (.cells #[.slice none 0 0, .slice none 0 0, .int .i64 0] 25 (0, 0))
  lo : ∀ g, oP = some g → wa.heap.size ≤ g
  el : ∀ g h, oE = some g → oL = some h → g ≠ h
  ep : ∀ g h, oE = some g → oP = some h → g ≠ h
  lp : ∀ g h, oL = some g → oP = some h → g ≠ h
theorem PS.start (wa : World) (N : Nat) : PS wa wa N none none none := ⟨Below.refl _ _, fun _ h => (by cases h), fun _ h => (by cases h), fun _ h => (by cases h), fun _ h => (by cases h), fun _ _ h => (by cases h), fun _ _ h => (by cases h), fun _ _ h => (by cases h)⟩
theorem PS.drew {wa w' : World} {N : Nat} {oE oL oP : Option Nat} (h : PS wa w' N oE oL oP) : PS wa w'.drew N oE oL oP := ⟨h.bl.drew, h.e, h.l, h.p, h.lo, h.el, h.ep, h.lp⟩
theorem below_grown {wa w' w'' : World} (h : Below wa.heap.size wa w') (hg : w'.grownBy w'' none) : Below wa.heap.size wa w'' :=
  ⟨hg.os.trans h.os, hg.tape.trans h.tape, hg.output.trans h.output, Nat.le_trans h.size hg.size, fun k hk => (hg.block k (Nat.lt_of_lt_of_le hk h.size) (by simp)).trans (h.block k hk)⟩
theorem PS.makeE {wa w' w'' : World} {N : Nat} {oL oP : Option Nat} (h : PS wa w' N none oL oP) (hr : w''.ownsRow wa.heap.size 2 1 (.slice (some ⟨w'.heap.size, 0, none⟩) N N) N (numf (fun _ => 0) N)) (hg : w'.grownBy w'' none) : PS wa w'' N (some w'.heap.size) oL oP :=
  ⟨below_grown h.bl hg, fun g e => by cases e; exact hr, fun g e => (h.l g e).kept hg (Or.inr (by simp [Value.ownBlock])), fun g e => (hg.block g (Array.getElem?_eq_some_iff.1 (h.p g e)).1 (by simp)).trans (h.p g e), h.lo,
   fun g k e e2 => by cases e; have := ((h.l k e2).lt k rfl).2; omega, fun g k e e2 => by cases e; have := (Array.getElem?_eq_some_iff.1 (h.p k e2)).1; omega, h.lp⟩
theorem PS.makeL {wa w' w'' : World} {N : Nat} {oE oP : Option Nat} (h : PS wa w' N oE none oP) (hr : w''.ownsRow wa.heap.size 2 1 (.slice (some ⟨w'.heap.size, 0, none⟩) N N) N (numf (fun _ => 0) N)) (hg : w'.grownBy w'' none) : PS wa w'' N oE (some w'.heap.size) oP :=
  ⟨below_grown h.bl hg, fun g e => (h.e g e).kept hg (Or.inr (by simp [Value.ownBlock])), fun g e => by cases e; exact hr, fun g e => (hg.block g (Array.getElem?_eq_some_iff.1 (h.p g e)).1 (by simp)).trans (h.p g e), h.lo,
   fun g k e e2 => by cases e2; have := ((h.e g e).lt g rfl).2; omega, h.ep, fun g k e e2 => by cases e; have := (Array.getElem?_eq_some_iff.1 (h.p k e2)).1; omega⟩
theorem PS.box {wa w' : World} {N : Nat} {oE oL : Option Nat} (h : PS wa w' N oE oL none) : PS wa (w'.alloc (.cells #[.slice none 0 0, .slice none 0 0, .int .i64 0] 25)) N oE oL (some w'.heap.size) :=
  ⟨h.bl.alloc h.bl.size _, fun g e => (h.e g e).alloc _, fun g e => (h.l g e).alloc _, fun g e => by cases e; exact heap_alloc_new w' _, fun g e => by cases e; exact h.bl.size,
   h.el, fun g k e e2 => by cases e2; have := ((h.e g e).lt g rfl).2; omega, fun g k e e2 => by cases e2; have := ((h.l g e).lt g rfl).2; omega⟩
/-- The plan as it lies: two rows of numbers, and the box. -/
structure PB (wa w' : World) (N gE gL gp : Nat) (X Y : Nat → Int) (Z : Int) : Prop where
  bl : Below wa.heap.size wa w'
  e : w'.ownsRow wa.heap.size 2 1 (.slice (some ⟨gE, 0, none⟩) N N) N (numf X N)
  l : w'.ownsRow wa.heap.size 2 1 (.slice (some ⟨gL, 0, none⟩) N N) N (numf Y N)
  p : w'.heap[gp]? = some (.cells #[.slice (some ⟨gE, 0, none⟩) N N, .slice (some ⟨gL, 0, none⟩) N N, .int .i64 Z] 25 (0, 0))
  ne : gE ≠ gL ∧ gE ≠ gp ∧ gL ≠ gp ∧ wa.heap.size ≤ gp
theorem PS.done {wa w' : World} {N gE gL gp : Nat} (h : PS wa w' N (some gE) (some gL) (some gp)) : PB wa (w'.setRow gp #[.slice (some ⟨gE, 0, none⟩) N N, .slice (some ⟨gL, 0, none⟩) N N, .int .i64 0]) N gE gL gp (fun _ => 0) (fun _ => 0) 0 := by
  have hne1 := h.ep gE gp rfl rfl
  have hne2 := h.lp gL gp rfl rfl
  have kp : ∀ {g : Nat} {X : Nat → Int}, g ≠ gp → w'.ownsRow wa.heap.size 2 1 (.slice (some ⟨g, 0, none⟩) N N) N (numf X N) → (w'.setRow gp #[.slice (some ⟨gE, 0, none⟩) N N, .slice (some ⟨gL, 0, none⟩) N N, .int .i64 0]).ownsRow wa.heap.size 2 1 (.slice (some ⟨g, 0, none⟩) N N) N (numf X N) := fun {g X} hg hr =>
    hr.kept (row := some gp) ⟨rfl, rfl, rfl, by simp [World.setRow], fun k _ hk => setRow_other w' gp k _ (fun e => hk (by rw [e]))⟩ (Or.inr (by intro e; simp [Value.ownBlock] at e; exact hg e))
  exact ⟨below_row h.bl (h.lo gp rfl), kp hne1 (h.e gE rfl), kp hne2 (h.l gL rfl), setRow_heap _ _ _ _ _ _ (h.p gp rfl), h.el gE gL rfl rfl, hne1, hne2, h.lo gp rfl⟩
theorem PB.alloc {wa w' : World} {N gE gL gp : Nat} {X Y : Nat → Int} {Z : Int} (h : PB wa w' N gE gL gp X Y Z) (o : Obj) : PB wa (w'.alloc o) N gE gL gp X Y Z :=
  ⟨h.bl.alloc h.bl.size _, h.e.alloc _, h.l.alloc _, (Below.heap_alloc _ _ _ (Array.getElem?_eq_some_iff.1 h.p).1).trans h.p, h.ne⟩
theorem PB.drewN {wa w' : World} {N gE gL gp : Nat} {X Y : Nat → Int} {Z : Int} (h : PB wa w' N gE gL gp X Y Z) (k : Nat) : PB wa (w'.drewN k) N gE gL gp X Y Z := ⟨drewN_below h.bl k, h.e, h.l, h.p, h.ne⟩
theorem PB.drew {wa w' : World} {N gE gL gp : Nat} {X Y : Nat → Int} {Z : Int} (h : PB wa w' N gE gL gp X Y Z) : PB wa w'.drew N gE gL gp X Y Z := ⟨h.bl.drew, h.e, h.l, h.p, h.ne⟩
theorem PB.setE {wa w' : World} {N gE gL gp t : Nat} {X Y : Nat → Int} {Z v : Int} (h : PB wa w' N gE gL gp X Y Z) : PB wa (w'.setCell ⟨gE, t, none⟩ (.int .i64 v)) N gE gL gp (fp X t v) Y Z :=
  ⟨h.bl.setCell (p := ⟨gE, t, none⟩) (h.e.lt gE rfl).1 _, by rw [← numf_set]; exact owns_store h.e _, owns_set_other h.l _ _ (fun g hg => by simp [Value.ownBlock] at hg; have := h.ne.1; show g ≠ gE; omega), (Below.heap_setCell _ _ _ _ (Ne.symm h.ne.2.1)).trans h.p, h.ne⟩
theorem PB.setL {wa w' : World} {N gE gL gp t : Nat} {X Y : Nat → Int} {Z v : Int} (h : PB wa w' N gE gL gp X Y Z) : PB wa (w'.setCell ⟨gL, t, none⟩ (.int .i64 v)) N gE gL gp X (fp Y t v) Z :=
  ⟨h.bl.setCell (p := ⟨gL, t, none⟩) (h.l.lt gL rfl).1 _, owns_set_other h.e _ _ (fun g hg => by simp [Value.ownBlock] at hg; have := h.ne.1; show g ≠ gL; omega), by rw [← numf_set]; exact owns_store h.l _, (Below.heap_setCell _ _ _ _ (Ne.symm h.ne.2.2.1)).trans h.p, h.ne⟩
theorem PB.setZ {wa w' : World} {N gE gL gp : Nat} {X Y : Nat → Int} {Z v : Int} (h : PB wa w' N gE gL gp X Y Z) : PB wa (w'.setCell ⟨gp, 2, none⟩ (.int .i64 v)) N gE gL gp X Y v :=
  ⟨h.bl.setCell (p := ⟨gp, 2, none⟩) h.ne.2.2.2 _, owns_set_other h.e _ _ (fun g hg => by simp [Value.ownBlock] at hg; have := h.ne.2.1; show g ≠ gp; omega), owns_set_other h.l _ _ (fun g hg => by simp [Value.ownBlock] at hg; have := h.ne.2.2.1; show g ≠ gp; omega), by rw [heap_setCell_same w' gp 2 _ _ _ h.p]; rfl, h.ne⟩
theorem PB.congr {wa w' : World} {N gE gL gp : Nat} {X Y X' Y' : Nat → Int} {Z : Int} (h : PB wa w' N gE gL gp X Y Z) (hX : ∀ j, j < N → X j = X' j) (hY : ∀ j, j < N → Y j = Y' j) : PB wa w' N gE gL gp X' Y' Z :=
  ⟨h.bl, by rw [← numf_congr hX]; exact h.e, by rw [← numf_congr hY]; exact h.l, h.p, h.ne⟩
theorem step_make {w : World} {o : Oper} {a : Act} {Q : Exit → Act → World → Prop} {K : Act → World → Prop} {base N : Nat} (x y : Operand) (hop : o.op = Op.makeSlice 23 x y) (hx : a.eval x = .int .i64 (N : Int)) (hy : a.eval y = .int .i64 (N : Int)) (hN : N ≤ 60) (hb : base ≤ w.heap.size)
    (h : ∀ w', w'.ownsRow base 2 1 (.slice (some ⟨w.heap.size, 0, none⟩) N N) N (numf (fun _ => 0) N) → w.grownBy w' none → K (a.put o.dst (.slice (some ⟨w.heap.size, 0, none⟩) N N)) w') : o.wp Tryd.prog a w K Q := by
  obtain ⟨i0, hi, hz0, hz1, hz2⟩ := info_parts info_i64
  obtain ⟨w', hrun, r1, r2⟩ := run_make_full (P := Tryd.prog) (w := w) base 23 2 i0 (.int .i64 0) 1 Tryd.underlying23 hi hz0 hz1 .i64 .i64 N (by rw [hz2]; omega) (by unfold maxLen; omega) hb
  have e : (madeCells (Value.int .i64 0).cells (N * 1)).toList = numf (fun _ => 0) N := by
    rw [numf_zero, Nat.mul_one]
    exact toList_madeCells_one _ _
  rw [e] at r1
  unfold Oper.wp
  simp [execOp, hop, hx, hy, hrun, Result.andThen]
  exact h w' r1 r2
section
variable {P : Program} {ops : Array Oper} {Q : Exit → Act → World → Prop} {md : Region.Mode} {C : World → Prop} {s : Nat}
theorem forkC {f : Nat} {listed : Array Bool} {a : Act} {w : World} {js : List Nat} (hr : Region.ready md ops listed = js) (hne : js ≠ []) (hc : listed.getD s false = false → C w) (h : ∀ i ∈ js, wpOp P ops Q i (Tkc.anyC P md ops C s Q f (listed.setIfInBounds i true)) a w) : Tkc.anyC P md ops C s Q (f + 1) listed a w :=
  ⟨hc, fun h0 => absurd (hr.symm.trans h0) hne, fun i hi => h i (by rw [hr] at hi; exact hi)⟩
theorem opC {i : Nat} {o : Oper} {K : Act → World → Prop} {a : Act} {w : World} (hi : ops[i]? = some o) (hw : Region.wanted o (yielded ops a.tmps) = true) (h : ∀ K1 : Act → World → Prop, (∀ a w, K a w → K1 a w) → o.wp P a w K1 Q) : wpOp P ops Q i K a w := by
  simp only [wpOp, hi, hw, if_true]
  exact Or.inl (h _ fun _ _ hh => hh)
end

set_option maxHeartbeats 4000000 in
set_option maxRecDepth 100000 in
theorem planOf_any {N : Nat} {w : World} {q pd : Option Addr} {l : List Ed} {d : List Int} {cap cd : Nat} {E L : Nat → Int} {S : Int} (h : Eds w q l) (hd : Nums w pd d) (hg : Gr N l) (hl : l.length ≤ 400) (hdN : d.length = N) (hac : ∀ i, ¬ Rch (eB l) i i) (hD : ∀ i, i < N → 0 ≤ nm d i ∧ nm d i ≤ 1000000000) (hP : Pln l (nm d) N E L S) :
    Calls Tryd.prog 9 #[.int .i64 (N : Int), .slice q l.length cap, .slice pd N cd] w fun e w' => (∃ pE cE pL cL, e = .returned (.agg #[.slice pE N cE, .slice pL N cL, .int .i64 S]) ∧ w'.ownsRow w.heap.size 2 1 (.slice pE N cE) N (numf E N) ∧ w'.ownsRow w.heap.size 2 1 (.slice pL N cL) N (numf L N)) ∧ Below w.heap.size w w' := by
  have hgH : Hid (Gr N l) := hg
  have hlH : Hid (l.length ≤ 400) := hl
  have hacH : Hid (∀ i, ¬ Rch (eB l) i i) := hac
  have hDH : Hid (∀ i, i < N → 0 ≤ nm d i ∧ nm d i ≤ 1000000000) := hD
  have hPH : Hid (Pln l (nm d) N E L S) := hP
  have hnH : Hid (N ≤ 60) := hg.n60
  have hdNH : Hid (d.length = N) := hdN
  have hEb : Hid (∀ w1, Below w.heap.size w w1 → Eds w1 q l) := fun w1 hb => h.below hb (Nat.le_refl _)
  have hdb : Hid (∀ w1, Below w.heap.size w w1 → Nums w1 pd d) := fun w1 hb => hd.below hb (Nat.le_refl _)
  clear h hd hg hl hdN hac hD hP
  go_enter Tryd.func9, Tryd.ntmps9
  go_wp2
  rename_i K hK
  have hbA : Hid (Below w.heap.size w (w.alloc (.cells #[.slice none 0 0, .slice none 0 0, .int .i64 0] 25))) := (Below.refl _ _).alloc (Nat.le_refl _) _
  have hnA : Hid ((w.alloc (.cells #[.slice none 0 0, .slice none 0 0, .int .i64 0] 25)).heap[w.heap.size]? = some (.cells #[.slice none 0 0, .slice none 0 0, .int .i64 0] 25 (0, 0))) := heap_alloc_new w _
  have hsA : Hid (w.heap.size < (w.alloc (.cells #[.slice none 0 0, .slice none 0 0, .int .i64 0] 25)).heap.size) := by show _ < _; simp
  generalize w.alloc (.cells #[.slice none 0 0, .slice none 0 0, .int .i64 0] 25) = wa at *
  generalize hgr : w.heap.size = gr at *
  have hgrH : Hid (w.heap.size = gr) := hgr
  clear hgr
  have key : ∀ gE gL gp w', PB wa w' N gE gL gp (fun _ => 0) (fun _ => 0) 0 → K { tmps := #[.int .i64 (N : Int), .slice q l.length cap, .slice pd N cd, undef, undef, undef, .pointer (some ⟨gr, 0, none⟩), .pointer (some ⟨gp, 0, none⟩), undef, undef, undef, undef, undef, undef, undef, undef, undef, undef, .int .i64 (N : Int), .slice (some ⟨gE, 0, none⟩) N N, .int .i64 (N : Int), .slice (some ⟨gL, 0, none⟩) N N, .agg #[.slice (some ⟨gE, 0, none⟩) N N, .slice (some ⟨gL, 0, none⟩) N N, .int .i64 0], undef, undef, undef, undef, undef, undef, undef, undef, undef, undef, undef, undef, undef, undef, undef, undef, undef, undef, undef, undef, undef, undef, undef, undef, undef, undef, undef, undef, undef, undef, undef, undef, undef, undef, undef, undef, undef, undef, undef, undef, undef, undef, undef, undef, undef, undef, undef, undef, undef, undef, undef, undef, undef, undef, undef, undef, undef, undef, undef, undef, undef, undef, undef, undef, undef, undef, undef, undef, undef, undef, undef, undef, undef, undef, undef, undef, undef, undef, undef, undef, undef, undef, undef, undef, undef, undef, undef, undef, undef, undef, undef, undef, undef, undef, undef, undef, undef, undef, undef, undef, undef, undef, undef, undef], defers := [] } w' := by
    intro gE gL gp w' hPB
    refine hK _ _ ?_
    have hPBH : Hid (PB wa w' N gE gL gp (fun _ => 0) (fun _ => 0) 0) := hPB
    clear hPB
    go_wp2
    go_loopw [8] (fun av wr => ∃ (X : Nat → Int) (ag : Bool), av = .bool ag ∧ PB wa wr N gE gL gp X (fun _ => 0) 0 ∧ (∀ k, k < N → 0 ≤ X k ∧ X k ≤ E k) ∧ (ag = false → ∀ k, k < l.length → X (ed l k).f.toNat + nm d (ed l k).f.toNat ≤ X (ed l k).t.toNat))
      (fun av wr => 2 * sF (fun k v => (E k - v).toNat) (rdC wr gE) N + boN av)
    case atStart => exact ⟨fun _ => 0, true, rfl, hPBH.out, fun k hk => ⟨Int.le_refl _, hPH.out.e.lo k hk⟩, fun h => by cases h⟩
    case round =>
      clear hPBH
      obtain ⟨X, ag, rfl, hPr, hbd, hfin⟩ := hrel
      cases ag with
      | true =>
        have hM : Hid (sF (fun k v => (E k - v).toNat) (rdC wr gE) N = sF (fun k v => (E k - v).toNat) X N) := sF_row _ hPr.e
        have hPrH : Hid (PB wa wr N gE gL gp X (fun _ => 0) 0) := hPr
        have hbdH : Hid (∀ k, k < N → 0 ≤ X k ∧ X k ≤ E k) := hbd
        clear hPr hbd hfin
        go_wp2
        go_loopw [8, 26] (fun av jv wj => ∃ (j : Nat) (X1 : Nat → Int) (ag : Bool), jv = .int .i64 j ∧ av = .bool ag ∧ j ≤ l.length ∧ PB wa wj N gE gL gp X1 (fun _ => 0) 0 ∧ (∀ k, k < N → 0 ≤ X1 k ∧ X1 k ≤ E k) ∧ (ag = false → X1 = X ∧ ∀ k, k < j → X (ed l k).f.toNat + nm d (ed l k).f.toNat ≤ X (ed l k).t.toNat) ∧ sF (fun k v => (E k - v).toNat) X1 N + (if ag then 1 else 0) ≤ sF (fun k v => (E k - v).toNat) X N)
          (fun _ jv _ => l.length - (intOf jv).toNat)
        case atStart => exact ⟨0, X, false, rfl, rfl, Nat.zero_le _, hPrH.out, hbdH.out, fun _ => ⟨rfl, fun k hk => absurd hk (by omega)⟩, by simp⟩
        case round =>
          rename World => wj
          clear hPrH hbdH
          obtain ⟨j, X1, ag, rfl, rfl, hjl, hPj, hb1, hag, hsum⟩ := hrel
          have hb1H : Hid (∀ k, k < N → 0 ≤ X1 k ∧ X1 k ≤ E k) := hb1
          have hagH : Hid (ag = false → X1 = X ∧ ∀ k, k < j → X (ed l k).f.toNat + nm d (ed l k).f.toNat ≤ X (ed l k).t.toNat) := hag
          have hsumH : Hid (sF (fun k v => (E k - v).toNat) X1 N + (if ag then 1 else 0) ≤ sF (fun k v => (E k - v).toNat) X N) := hsum
          clear hb1 hag hsum
          by_cases hj : j < l.length
          · have hjj : j < l.length := hj
            clear hjj
            have hok := hgH.out.ok _ (ed_mem hj)
            have hBj : Below gr w wj := hbA.out.trans (hPj.bl.mono (Nat.le_of_lt hsA.out))
            rcases hEb.out wj hBj with hh0 | ⟨eb, eo, rfl, hAr⟩
            · omega
            have z0 := hAr.cf j hj
            have z1 := hAr.ct j hj
            have hji : (j : Int) < (l.length : Int) := by omega
            have hj2 : Hid (j ≤ 100000) := by have := hlH.out; show _ ≤ _; omega
            obtain ⟨F, hF⟩ : ∃ F : Nat, (ed l j).f = (F : Int) := ⟨(ed l j).f.toNat, by omega⟩
            obtain ⟨T, hT⟩ : ∃ T : Nat, (ed l j).t = (T : Int) := ⟨(ed l j).t.toNat, by omega⟩
            have hFn : F < N := by omega
            have hTn : T < N := by omega
            have hFT : Hid (eB l F T = true) := eB_true.2 ⟨_, ed_mem hj, hF, hT⟩
            have hFTj : Hid ((ed l j).f.toNat = F ∧ (ed l j).t.toNat = T) := ⟨by omega, by omega⟩
            rw [hF] at z0
            rw [hT] at z1
            have hPA := hPj.alloc (.cells #[.int .i64 (F : Int), .int .i64 (T : Int)] 38)
            have hBA : Below gr w (wj.alloc (.cells #[.int .i64 (F : Int), .int .i64 (T : Int)] 38)) := hbA.out.trans (hPA.bl.mono (Nat.le_of_lt hsA.out))
            have hn := heap_alloc_new wj (.cells #[.int .i64 (F : Int), .int .i64 (T : Int)] 38)
            obtain ⟨db, dof, rfl, dF⟩ : ∃ b o, pd = some ⟨b, o, none⟩ ∧ (wj.alloc (.cells #[.int .i64 (F : Int), .int .i64 (T : Int)] 38)).cell? ⟨b, o + F, none⟩ = some (.int .i64 (nm d F)) := by
              rcases hdb.out _ hBA with h0 | ⟨b, o, e, hA⟩
              · have := hdNH.out; omega
              · exact ⟨b, o, e, hA.c F (by have := hdNH.out; omega)⟩
            have hFi : (F : Int) < (N : Int) := by omega
            have hF0 : ¬ (F : Int) < 0 := by omega
            have hFg : ¬ (N : Int) ≤ (F : Int) := by omega
            have hTi : (T : Int) < (N : Int) := by omega
            have hT0 : ¬ (T : Int) < 0 := by omega
            have hTg : ¬ (N : Int) ≤ (T : Int) := by omega
            have hDF := hDH.out F hFn
            have hPAH : Hid (PB wa (wj.alloc (.cells #[.int .i64 (F : Int), .int .i64 (T : Int)] 38)) N gE gL gp X1 (fun _ => 0) 0) := hPA
            clear hAr hok hF hT hBA hBj
            go_wp2
            have k0 : (wj.alloc (.cells #[.int .i64 (F : Int), .int .i64 (T : Int)] 38)).cell? ⟨wj.heap.size, 0, none⟩ = some (.int .i64 (F : Int)) := (cell_of_row _ _ 0 _ _ _ hn).trans rfl
            have k1 : (wj.alloc (.cells #[.int .i64 (F : Int), .int .i64 (T : Int)] 38)).cell? ⟨wj.heap.size, 1, none⟩ = some (.int .i64 (T : Int)) := (cell_of_row _ _ 1 _ _ _ hn).trans rfl
            have a0 := box_cell hPA.p 0 rfl
            have xF : (wj.alloc (.cells #[.int .i64 (F : Int), .int .i64 (T : Int)] 38)).cell? ⟨gE, F, none⟩ = some (.int .i64 (X1 F)) := by rw [hPA.e.cellAt F (by omega), numf_get hFn]
            have xT : (wj.alloc (.cells #[.int .i64 (F : Int), .int .i64 (T : Int)] 38)).cell? ⟨gE, T, none⟩ = some (.int .i64 (X1 T)) := by rw [hPA.e.cellAt T (by omega), numf_get hTn]
            have fC := owns_frz hPA.e T
            have hhc : Hid (wj.heap.size < (wj.alloc (.cells #[.int .i64 (F : Int), .int .i64 (T : Int)] 38)).heap.size) := by show _ < _; simp
            have hgj : Hid (gE ≠ wj.heap.size) := by have := (hPj.e.lt gE rfl).2; show _ ≠ _; omega
            clear z0 z1 hn hPA
            generalize wj.alloc (.cells #[.int .i64 (F : Int), .int .i64 (T : Int)] 38) = wk at *
            generalize wj.heap.size = hc at *
            clear hPj
            have hbF := hb1H.out F hFn
            have hbT := hb1H.out T hTn
            have hEe : Hid (E F + nm d F ≤ E T) := hPH.out.e.edge F T hFT.out
            have hEm : Hid (E F ≤ 60000000000) := hPH.out.e.most hgH.out hacH.out hDH.out F hFn
            have hws : wrap64 (X1 F + nm d F) = X1 F + nm d F := wrap_small (by have := hEe.out; have := hEm.out; omega)
            by_cases hlt : X1 T < X1 F + nm d F
            · have hnb : Hid (∀ k, k < N → 0 ≤ (fp X1 T (X1 F + nm d F)) k ∧ (fp X1 T (X1 F + nm d F)) k ≤ E k) := fun k hk => by
                by_cases e : k = T
                · subst e; rw [fp_same]; have := hEe.out; have := hb1H.out k hk; omega
                · rw [fp_ne e]; exact hb1H.out k hk
              have hns : Hid (sF (fun k v => (E k - v).toNat) (fp X1 T (X1 F + nm d F)) N + 1 ≤ sF (fun k v => (E k - v).toNat) X N) := by
                have h1 := sF_upd (F := (fun k v => (E k - v).toNat)) (X := X1) (t := T) (v := X1 F + nm d F) (by have := hEe.out; omega) (n := N) (by omega)
                have h2 := hsumH.out
                show _ ≤ _
                omega
              have hltH : Hid (X1 T < X1 F + nm d F) := hlt
              clear hbF hbT hDF hb1H hagH hsumH hM
              generalize hx : X1 F + nm d F = x at *
              clear hlt
              go_quiet (fail)
              rw [hws]
              have hPq := hPAH.out.drewN nq
              have kk1 : (wk.drewN nq).cell? ⟨hc, 1, none⟩ = some (.int .i64 (T : Int)) := k1
              have kk0 : (wk.drewN nq).cell? ⟨hc, 0, none⟩ = some (.int .i64 (F : Int)) := k0
              have aa := box_cell hPq.p 0 rfl
              have xx := hPq.e.cellAt T (by omega)
              rw [numf_get (by omega)] at xx
              have ff := owns_frz hPq.e T
              have hcmp : X1 T < x := by have := hltH.out; omega
              clear a0 xF xT k0 k1 fC dF
              have hPqH : Hid (PB wa (wk.drewN nq) N gE gL gp X1 (fun _ => 0) 0) := hPq
              clear hPq
              generalize wk.drewN nq = wv at *
              go_wp2
              refine ⟨⟨j + 1, fp X1 T x, true, ?_, rfl, hj, hPqH.out.setE, hnb.out, fun h => (by cases h), by simpa using hns.out⟩, ?_⟩
              · first | exact int_succ j | exact int_wsucc hj2.out
              · first | exact meas_1 hj | exact meas_w hj hj2.out
            · have hnok : Hid (ag = false → X1 = X ∧ ∀ k, k < j + 1 → X (ed l k).f.toNat + nm d (ed l k).f.toNat ≤ X (ed l k).t.toNat) := fun h => by
                obtain ⟨h1, h2⟩ := hagH.out h
                refine ⟨h1, fun k hk => ?_⟩
                by_cases e : k = j
                · subst e
                  rw [hFTj.out.1, hFTj.out.2, ← h1]
                  omega
                · exact h2 k (by omega)
              have hltH : Hid (¬ X1 T < X1 F + nm d F) := hlt
              clear hbF hbT hDF hagH hM
              generalize hx : X1 F + nm d F = x at *
              clear hlt
              go_quiet (fail)
              rw [hws]
              have hPq := hPAH.out.drewN nq
              have kk1 : (wk.drewN nq).cell? ⟨hc, 1, none⟩ = some (.int .i64 (T : Int)) := k1
              have kk0 : (wk.drewN nq).cell? ⟨hc, 0, none⟩ = some (.int .i64 (F : Int)) := k0
              have aa := box_cell hPq.p 0 rfl
              have xx := hPq.e.cellAt T (by omega)
              rw [numf_get (by omega)] at xx
              have hcmp : ¬ X1 T < x := by have := hltH.out; omega
              clear a0 xF xT k0 k1 fC dF
              have hPqH : Hid (PB wa (wk.drewN nq) N gE gL gp X1 (fun _ => 0) 0) := hPq
              clear hPq
              generalize wk.drewN nq = wv at *
              go_wp2
              refine ⟨⟨j + 1, X1, ag, ?_, rfl, hj, hPqH.out, hb1H.out, hnok.out, hsumH.out⟩, ?_⟩
              · first | exact int_succ j | exact int_wsucc hj2.out
              · first | exact meas_1 hj | exact meas_w hj hj2.out
          · have hji : ¬ (j : Int) < (l.length : Int) := by omega
            have e : j = l.length := by omega
            subst e
            have hPjH : Hid (PB wa wj N gE gL gp X1 (fun _ => 0) 0) := hPj
            clear hPj
            go_wp2
            refine ⟨⟨X1, ag, rfl, hPjH.out, hb1H.out, fun h => by obtain ⟨h1, h2⟩ := hagH.out h; rw [h1]; exact h2⟩, ?_⟩
            rw [sF_row _ hPjH.out.e, hM.out]
            have := hsumH.out
            cases ag <;> simp [boN] at * <;> omega
      | false =>
        have hXE : ∀ j, j < N → X j = E j := fun j hj => by
          have h1 := (hbd j hj).2
          have h2 := hPH.out.e.least hgH.out hacH.out (T := X) (fun k hk => (hbd k hk).1) (fun a b hab => by
            obtain ⟨e, he, e1, e2⟩ := eB_true.1 hab
            obtain ⟨k, hk, ek⟩ := List.getElem_of_mem he
            have := hfin rfl k hk
            rw [ed_get hk, ek, e1, e2, Int.toNat_natCast, Int.toNat_natCast] at this
            exact this) j hj
          omega
        have hP3 : Hid (PB wa wr N gE gL gp E (fun _ => 0) 0) := hPr.congr hXE (fun _ _ => rfl)
        clear hPr hbd hfin hXE
        go_wp2
        go_loopw [58] (fun iv w3 => ∃ (k : Nat) (Z : Int), iv = .int .i64 k ∧ k ≤ N ∧ PB wa w3 N gE gL gp E (fun _ => 0) Z ∧ SpI E (nm d) k Z)
          (fun iv _ => N - (intOf iv).toNat)
        case atStart => exact ⟨0, 0, rfl, Nat.zero_le _, hP3.out, ⟨Int.le_refl _, by omega, fun i hi => absurd hi (by omega), Or.inl rfl⟩⟩
        case round =>
          rename World => w3
          clear hP3
          obtain ⟨k, Z, rfl, hkN, hP3, hI⟩ := hrel
          have hP3H : Hid (PB wa w3 N gE gL gp E (fun _ => 0) Z) := hP3
          by_cases hk : k < N
          · have hki : (k : Int) < (N : Int) := by omega
            have hk2 : Hid (k ≤ 100000) := by have := hnH.out; show _ ≤ _; omega
            have hB3 : Below gr w w3 := hbA.out.trans (hP3.bl.mono (Nat.le_of_lt hsA.out))
            obtain ⟨db, dof, rfl, dk⟩ : ∃ b o, pd = some ⟨b, o, none⟩ ∧ w3.cell? ⟨b, o + k, none⟩ = some (.int .i64 (nm d k)) := by
              rcases hdb.out _ hB3 with h0 | ⟨b, o, e, hA⟩
              · have := hdNH.out; omega
              · exact ⟨b, o, e, hA.c k (by have := hdNH.out; omega)⟩
            have a0 := box_cell hP3.p 0 rfl
            have a2 := box_cell hP3.p 2 rfl
            have f2 : w3.frozen? ⟨gp, 2, none⟩ = false := by simp [World.frozen?, hP3.p]
            have xk := hP3.e.cellAt k (by omega)
            rw [numf_get hk] at xk
            have hEk := hPH.out.e.most hgH.out hacH.out hDH.out k hk
            have hEl := hPH.out.e.lo k hk
            have hDk := hDH.out k hk
            have hn3 : Hid (SpI E (nm d) (k + 1) (max Z (E k + nm d k))) := hI.step (by omega)
            have hws : Hid (IntKind.i64.wrap (E k + nm d k) = E k + nm d k) := by show _ = _; rw [IntKind.wrap_i64]; omega
            have hk0 : ¬ (k : Int) < 0 := by omega
            have hkg : ¬ (N : Int) ≤ (k : Int) := by omega
            clear hP3 hI hB3 hEk hEl hDk
            generalize nm d k = y at *
            generalize hEg : E k = x at *
            clear hEg
            go_wp2
            refine wp_region_still_tail 13 (by kernel_rfl) (by kernel_rfl) ?_
            simp only [List.take_succ_cons, List.take_zero, List.drop_succ_cons, List.drop_zero]
            repeat (first | still_step)
            refine wpStill_nil ?_
            rw [hws.out]
            change wpList _ _ _ _ _ (World.drew w3)
            have a2d : w3.drew.cell? ⟨gp, 2, none⟩ = some (.int .i64 Z) := a2
            have f2d : w3.drew.frozen? ⟨gp, 2, none⟩ = false := f2
            clear a0 a2 f2 xk dk
            go_wp2
            refine ⟨⟨k + 1, _, ?_, hk, hP3H.out.drew.setZ, hn3.out⟩, ?_⟩
            · first | exact int_succ k | exact int_wsucc hk2.out
            · first | exact meas_1 hk | exact meas_w hk hk2.out
          · have hki : ¬ (k : Int) < (N : Int) := by omega
            have e : k = N := by omega
            subst e
            obtain rfl : Z = S := (Spn.uniq ⟨hI.lo, hI.up, hI.why⟩ hPH.out.s (fun _ _ => rfl))
            have hbds := hPH.out.bounds hgH.out hacH.out hDH.out
            have hSb : Hid (0 ≤ Z ∧ Z ≤ 61000000000) := hbds.2
            clear hP3 hI hbds
            go_wp2
            go_loopw [77] (fun iv w4 => ∃ (i : Nat) (Y : Nat → Int), iv = .int .i64 i ∧ i ≤ k ∧ PB wa w4 k gE gL gp E Y Z ∧ ∀ j, j < i → Y j = Z - nm d j)
              (fun iv _ => k - (intOf iv).toNat)
            case atStart => exact ⟨0, fun _ => 0, rfl, Nat.zero_le _, hP3H.out, fun j hj => absurd hj (by omega)⟩
            case round =>
              rename World => w4
              clear hP3H
              obtain ⟨i, Y, rfl, hik, hP4, hY⟩ := hrel
              have hP4H : Hid (PB wa w4 k gE gL gp E Y Z) := hP4
              have hYH : Hid (∀ j, j < i → Y j = Z - nm d j) := hY
              clear hY
              by_cases hi : i < k
              · have hii : (i : Int) < (k : Int) := by omega
                have hi2 : Hid (i ≤ 100000) := by have := hnH.out; show _ ≤ _; omega
                have hB4 : Below gr w w4 := hbA.out.trans (hP4.bl.mono (Nat.le_of_lt hsA.out))
                obtain ⟨db, dof, rfl, dk⟩ : ∃ b o, pd = some ⟨b, o, none⟩ ∧ w4.cell? ⟨b, o + i, none⟩ = some (.int .i64 (nm d i)) := by
                  rcases hdb.out _ hB4 with h0 | ⟨b, o, e, hA⟩
                  · have := hdNH.out; omega
                  · exact ⟨b, o, e, hA.c i (by have := hdNH.out; omega)⟩
                have a1 := box_cell hP4.p 1 rfl
                have a2 := box_cell hP4.p 2 rfl
                have xk := hP4.l.cellAt i (by omega)
                rw [numf_get hi] at xk
                have fk := owns_frz hP4.l i
                have hDk := hDH.out i hi
                have hny : Hid (∀ j, j < i + 1 → fp Y i (Z - nm d i) j = Z - nm d j) := fun j hj => by
                  by_cases e : j = i
                  · subst e; rw [fp_same]
                  · rw [fp_ne e]; exact hYH.out j (by omega)
                have hws : Hid (IntKind.i64.wrap (Z - nm d i) = Z - nm d i) := by have := hSb.out; show _ = _; rw [IntKind.wrap_i64]; omega
                have hk0 : ¬ (i : Int) < 0 := by omega
                have hkg : ¬ (k : Int) ≤ (i : Int) := by omega
                clear hP4 hB4 hDk
                generalize hyg : nm d i = y at *
                clear hyg
                go_wp2
                refine wp_region_still_tail 10 (by kernel_rfl) (by kernel_rfl) ?_
                simp only [List.take_succ_cons, List.take_zero, List.drop_succ_cons, List.drop_zero]
                repeat (first | still_step)
                refine wpStill_nil ?_
                rw [hws.out]
                change wpList _ _ _ _ _ (World.drew w4)
                have xkd : w4.drew.cell? ⟨gL, i, none⟩ = some (.int .i64 (Y i)) := xk
                have fkd : w4.drew.frozen? ⟨gL, i, none⟩ = false := fk
                clear a1 a2 xk fk dk
                go_wp2
                refine ⟨⟨i + 1, fp Y i (Z - y), ?_, hi, hP4H.out.drew.setL, hny.out⟩, ?_⟩
                · first | exact int_succ i | exact int_wsucc hi2.out
                · first | exact meas_1 hi | exact meas_w hi hi2.out
              · have hii : ¬ (i : Int) < (k : Int) := by omega
                have e : i = k := by omega
                subst e
                have hP5 : Hid (PB wa w4 i gE gL gp E Y Z) := hP4
                clear hP4
                go_wp2
                go_loopw [14] (fun av wr => ∃ (X : Nat → Int) (ag : Bool), av = .bool ag ∧ PB wa wr i gE gL gp E X Z ∧ (∀ k, k < i → L k ≤ X k ∧ X k + nm d k ≤ Z) ∧ (ag = false → ∀ k, k < l.length → X (ed l k).f.toNat + nm d (ed l k).f.toNat ≤ X (ed l k).t.toNat))
                  (fun av wr => 2 * sF (fun k v => (v - L k).toNat) (rdC wr gL) i + boN av)
                case atStart => exact ⟨Y, true, rfl, hP5.out, fun k hk => by have h1 := hYH.out k hk; have h2 := hPH.out.t.up k hk; exact ⟨by omega, by omega⟩, fun h => by cases h⟩
                case round =>
                  clear hP5
                  obtain ⟨X, ag, rfl, hPr, hbd, hfin⟩ := hrel
                  cases ag with
                  | true =>
                    have hM : Hid (sF (fun k v => (v - L k).toNat) (rdC wr gL) i = sF (fun k v => (v - L k).toNat) X i) := sF_row _ hPr.l
                    have hPrH : Hid (PB wa wr i gE gL gp E X Z) := hPr
                    have hbdH : Hid (∀ k, k < i → L k ≤ X k ∧ X k + nm d k ≤ Z) := hbd
                    clear hPr hbd hfin
                    go_wp2
                    go_loopw [14, 95] (fun av jv wj => ∃ (j : Nat) (X1 : Nat → Int) (ag : Bool), jv = .int .i64 j ∧ av = .bool ag ∧ j ≤ l.length ∧ PB wa wj i gE gL gp E X1 Z ∧ (∀ k, k < i → L k ≤ X1 k ∧ X1 k + nm d k ≤ Z) ∧ (ag = false → X1 = X ∧ ∀ k, k < j → X (ed l k).f.toNat + nm d (ed l k).f.toNat ≤ X (ed l k).t.toNat) ∧ sF (fun k v => (v - L k).toNat) X1 i + (if ag then 1 else 0) ≤ sF (fun k v => (v - L k).toNat) X i)
                      (fun _ jv _ => l.length - (intOf jv).toNat)
                    case atStart => exact ⟨0, X, false, rfl, rfl, Nat.zero_le _, hPrH.out, hbdH.out, fun _ => ⟨rfl, fun k hk => absurd hk (by omega)⟩, by simp⟩
                    case round =>
                      rename World => wj
                      clear hPrH hbdH
                      obtain ⟨j, X1, ag, rfl, rfl, hjl, hPj, hb1, hag, hsum⟩ := hrel
                      have hb1H : Hid (∀ k, k < i → L k ≤ X1 k ∧ X1 k + nm d k ≤ Z) := hb1
                      have hagH : Hid (ag = false → X1 = X ∧ ∀ k, k < j → X (ed l k).f.toNat + nm d (ed l k).f.toNat ≤ X (ed l k).t.toNat) := hag
                      have hsumH : Hid (sF (fun k v => (v - L k).toNat) X1 i + (if ag then 1 else 0) ≤ sF (fun k v => (v - L k).toNat) X i) := hsum
                      clear hb1 hag hsum
                      by_cases hj : j < l.length
                      · have hjj : j < l.length := hj
                        clear hjj
                        have hok := hgH.out.ok _ (ed_mem hj)
                        have hBj : Below gr w wj := hbA.out.trans (hPj.bl.mono (Nat.le_of_lt hsA.out))
                        rcases hEb.out wj hBj with hh0 | ⟨eb, eo, rfl, hAr⟩
                        · omega
                        have z0 := hAr.cf j hj
                        have z1 := hAr.ct j hj
                        have hji : (j : Int) < (l.length : Int) := by omega
                        have hj2 : Hid (j ≤ 100000) := by have := hlH.out; show _ ≤ _; omega
                        obtain ⟨F, hF⟩ : ∃ F : Nat, (ed l j).f = (F : Int) := ⟨(ed l j).f.toNat, by omega⟩
                        obtain ⟨T, hT⟩ : ∃ T : Nat, (ed l j).t = (T : Int) := ⟨(ed l j).t.toNat, by omega⟩
                        have hFn : F < i := by omega
                        have hTn : T < i := by omega
                        have hFT : Hid (eB l F T = true) := eB_true.2 ⟨_, ed_mem hj, hF, hT⟩
                        have hFTj : Hid ((ed l j).f.toNat = F ∧ (ed l j).t.toNat = T) := ⟨by omega, by omega⟩
                        rw [hF] at z0
                        rw [hT] at z1
                        have hPA := hPj.alloc (.cells #[.int .i64 (F : Int), .int .i64 (T : Int)] 38)
                        have hBA : Below gr w (wj.alloc (.cells #[.int .i64 (F : Int), .int .i64 (T : Int)] 38)) := hbA.out.trans (hPA.bl.mono (Nat.le_of_lt hsA.out))
                        have hn := heap_alloc_new wj (.cells #[.int .i64 (F : Int), .int .i64 (T : Int)] 38)
                        obtain ⟨db, dof, rfl, dF⟩ : ∃ b o, pd = some ⟨b, o, none⟩ ∧ (wj.alloc (.cells #[.int .i64 (F : Int), .int .i64 (T : Int)] 38)).cell? ⟨b, o + F, none⟩ = some (.int .i64 (nm d F)) := by
                          rcases hdb.out _ hBA with h0 | ⟨b, o, e, hA⟩
                          · have := hdNH.out; omega
                          · exact ⟨b, o, e, hA.c F (by have := hdNH.out; omega)⟩
                        have hFi : (F : Int) < (i : Int) := by omega
                        have hF0 : ¬ (F : Int) < 0 := by omega
                        have hFg : ¬ (i : Int) ≤ (F : Int) := by omega
                        have hTi : (T : Int) < (i : Int) := by omega
                        have hT0 : ¬ (T : Int) < 0 := by omega
                        have hTg : ¬ (i : Int) ≤ (T : Int) := by omega
                        have hDF := hDH.out F hFn
                        have hPAH : Hid (PB wa (wj.alloc (.cells #[.int .i64 (F : Int), .int .i64 (T : Int)] 38)) i gE gL gp E X1 Z) := hPA
                        clear hAr hok hF hT hBA hBj
                        go_wp2
                        have k0 : (wj.alloc (.cells #[.int .i64 (F : Int), .int .i64 (T : Int)] 38)).cell? ⟨wj.heap.size, 0, none⟩ = some (.int .i64 (F : Int)) := (cell_of_row _ _ 0 _ _ _ hn).trans rfl
                        have k1 : (wj.alloc (.cells #[.int .i64 (F : Int), .int .i64 (T : Int)] 38)).cell? ⟨wj.heap.size, 1, none⟩ = some (.int .i64 (T : Int)) := (cell_of_row _ _ 1 _ _ _ hn).trans rfl
                        have a1 := box_cell hPA.p 1 rfl
                        have xF : (wj.alloc (.cells #[.int .i64 (F : Int), .int .i64 (T : Int)] 38)).cell? ⟨gL, F, none⟩ = some (.int .i64 (X1 F)) := by rw [hPA.l.cellAt F (by omega), numf_get hFn]
                        have xT : (wj.alloc (.cells #[.int .i64 (F : Int), .int .i64 (T : Int)] 38)).cell? ⟨gL, T, none⟩ = some (.int .i64 (X1 T)) := by rw [hPA.l.cellAt T (by omega), numf_get hTn]
                        have fC := owns_frz hPA.l F
                        have hhc : Hid (wj.heap.size < (wj.alloc (.cells #[.int .i64 (F : Int), .int .i64 (T : Int)] 38)).heap.size) := by show _ < _; simp
                        have hgj : Hid (gL ≠ wj.heap.size) := by have := (hPj.l.lt gL rfl).2; show _ ≠ _; omega
                        clear z0 z1 hn hPA
                        generalize wj.alloc (.cells #[.int .i64 (F : Int), .int .i64 (T : Int)] 38) = wk at *
                        generalize wj.heap.size = hc at *
                        clear hPj
                        have hbF := hb1H.out F hFn
                        have hbT := hb1H.out T hTn
                        have hDT := hDH.out T hTn
                        have hEe : Hid (L F + nm d F ≤ L T) := hPH.out.t.edge F T hFT.out
                        have hEm : Hid (-100000000000 ≤ L T ∧ Z ≤ 100000000000) := by have h9 := hPH.out.bounds hgH.out hacH.out hDH.out; have h8 := h9.1 T hTn; exact ⟨by omega, by omega⟩
                        have hws : wrap64 (X1 T - nm d F) = X1 T - nm d F := wrap_small (by have := hEe.out; have := hEm.out; omega)
                        by_cases hlt : X1 T - nm d F < X1 F
                        · have hnb : Hid (∀ k, k < i → L k ≤ (fp X1 F (X1 T - nm d F)) k ∧ (fp X1 F (X1 T - nm d F)) k + nm d k ≤ Z) := fun k hk => by
                            by_cases e : k = F
                            · subst e; rw [fp_same]; have := hEe.out; have := hb1H.out k hk; omega
                            · rw [fp_ne e]; exact hb1H.out k hk
                          have hns : Hid (sF (fun k v => (v - L k).toNat) (fp X1 F (X1 T - nm d F)) i + 1 ≤ sF (fun k v => (v - L k).toNat) X i) := by
                            have h1 := sF_upd (F := (fun k v => (v - L k).toNat)) (X := X1) (t := F) (v := X1 T - nm d F) (by have := hEe.out; omega) (n := i) (by omega)
                            have h2 := hsumH.out
                            show _ ≤ _
                            omega
                          have hltH : Hid (X1 T - nm d F < X1 F) := hlt
                          clear hbF hbT hDF hDT hb1H hagH hsumH hM
                          generalize hx : X1 T - nm d F = x at *
                          clear hlt
                          go_quiet (fail)
                          rw [hws]
                          have hPq := hPAH.out.drewN nq
                          have kk1 : (wk.drewN nq).cell? ⟨hc, 1, none⟩ = some (.int .i64 (T : Int)) := k1
                          have kk0 : (wk.drewN nq).cell? ⟨hc, 0, none⟩ = some (.int .i64 (F : Int)) := k0
                          have aa := box_cell hPq.p 1 rfl
                          have xx := hPq.l.cellAt F (by omega)
                          rw [numf_get (by omega)] at xx
                          have ff := owns_frz hPq.l F
                          have hcmp : x < X1 F := by have := hltH.out; omega
                          clear a1 xF xT k0 k1 fC dF
                          have hPqH : Hid (PB wa (wk.drewN nq) i gE gL gp E X1 Z) := hPq
                          clear hPq
                          generalize wk.drewN nq = wv at *
                          go_wp2
                          refine ⟨⟨j + 1, fp X1 F x, true, ?_, rfl, hj, hPqH.out.setL, hnb.out, fun h => (by cases h), by simpa using hns.out⟩, ?_⟩
                          · first | exact int_succ j | exact int_wsucc hj2.out
                          · first | exact meas_1 hj | exact meas_w hj hj2.out
                        · have hnok : Hid (ag = false → X1 = X ∧ ∀ k, k < j + 1 → X (ed l k).f.toNat + nm d (ed l k).f.toNat ≤ X (ed l k).t.toNat) := fun h => by
                            obtain ⟨h1, h2⟩ := hagH.out h
                            refine ⟨h1, fun k hk => ?_⟩
                            by_cases e : k = j
                            · subst e
                              rw [hFTj.out.1, hFTj.out.2, ← h1]
                              omega
                            · exact h2 k (by omega)
                          have hltH : Hid (¬ X1 T - nm d F < X1 F) := hlt
                          clear hbF hbT hDF hDT hagH hM
                          generalize hx : X1 T - nm d F = x at *
                          clear hlt
                          go_quiet (fail)
                          rw [hws]
                          have hPq := hPAH.out.drewN nq
                          have kk1 : (wk.drewN nq).cell? ⟨hc, 1, none⟩ = some (.int .i64 (T : Int)) := k1
                          have kk0 : (wk.drewN nq).cell? ⟨hc, 0, none⟩ = some (.int .i64 (F : Int)) := k0
                          have aa := box_cell hPq.p 1 rfl
                          have xx := hPq.l.cellAt F (by omega)
                          rw [numf_get (by omega)] at xx
                          have hcmp : ¬ x < X1 F := by have := hltH.out; omega
                          clear a1 xF xT k0 k1 fC dF
                          have hPqH : Hid (PB wa (wk.drewN nq) i gE gL gp E X1 Z) := hPq
                          clear hPq
                          generalize wk.drewN nq = wv at *
                          go_wp2
                          refine ⟨⟨j + 1, X1, ag, ?_, rfl, hj, hPqH.out, hb1H.out, hnok.out, hsumH.out⟩, ?_⟩
                          · first | exact int_succ j | exact int_wsucc hj2.out
                          · first | exact meas_1 hj | exact meas_w hj hj2.out
                      · have hji : ¬ (j : Int) < (l.length : Int) := by omega
                        have e : j = l.length := by omega
                        subst e
                        have hPjH : Hid (PB wa wj i gE gL gp E X1 Z) := hPj
                        clear hPj
                        go_wp2
                        refine ⟨⟨X1, ag, rfl, hPjH.out, hb1H.out, fun h => by obtain ⟨h1, h2⟩ := hagH.out h; rw [h1]; exact h2⟩, ?_⟩
                        rw [sF_row _ hPjH.out.l, hM.out]
                        have := hsumH.out
                        cases ag <;> simp [boN] at * <;> omega
                  | false =>
                    have hXL : ∀ j, j < i → X j = L j := fun j hj => by
                      have h1 := (hbd j hj).1
                      have h2 := hPH.out.t.most hgH.out hacH.out (T := X) (fun k hk => (hbd k hk).2) (fun a b hab => by
                        obtain ⟨e, he, e1, e2⟩ := eB_true.1 hab
                        obtain ⟨k, hk, ek⟩ := List.getElem_of_mem he
                        have := hfin rfl k hk
                        rw [ed_get hk, ek, e1, e2, Int.toNat_natCast, Int.toNat_natCast] at this
                        exact this) j hj
                      omega
                    have hP6 := hPr.congr (fun _ _ => rfl) hXL
                    clear hPr hbd hfin hXL
                    have hrr := (hP6.bl.block gr hsA.out).trans hnA.out
                    have hlast := hP6.p
                    have hBr : Hid (Below gr w wr) := hbA.out.trans (hP6.bl.mono (Nat.le_of_lt hsA.out))
                    have hE6 : Hid (wr.ownsRow wa.heap.size 2 1 (.slice (some ⟨gE, 0, none⟩) i i) i (numf E i)) := hP6.e
                    have hL6 : Hid (wr.ownsRow wa.heap.size 2 1 (.slice (some ⟨gL, 0, none⟩) i i) i (numf L i)) := hP6.l
                    clear hP6
                    go_wp2_with (first
                      | (refine wpList_load_row rfl 25 _ rfl _ rfl _ _ _ _ hlast Tryd.underlying25 rfl (plan_info _ rfl) ?_)
                      | (refine wpList_store_row rfl 25 _ _ rfl _ #[.slice (some ⟨gE, 0, none⟩) i i, .slice (some ⟨gL, 0, none⟩) i i, .int .i64 Z] rfl rfl _ _ hrr (plan_info _ rfl) rfl (plan_one _ _ _ _ _ _ _) ?_)
                      | go_in)
                    refine bodyPost_ret (results_cell_row Tryd.results9 _ _ gr _ #[.slice (some ⟨gE, 0, none⟩) i i, .slice (some ⟨gL, 0, none⟩) i i, .int .i64 Z] _ _ rfl (setRow_heap wr gr _ _ _ _ hrr) Tryd.underlying25 rfl (plan_info _ rfl)) rfl ?_
                    have hs9 := hsA.out
                    rw [hgrH.out]
                    exact ⟨⟨_, _, _, _, rfl, owns_base' (owns_setRow_other hE6.out hs9) (Nat.le_of_lt hs9), owns_base' (owns_setRow_other hL6.out hs9) (Nat.le_of_lt hs9)⟩, below_row hBr.out (Nat.le_refl _)⟩
  clear hK
  refine Tkc.region_anyC (C := fun _ => True) (s := 6) (by kernel_rfl) ?_
  have hS0 := PS.start wa N
  change Tkc.anyC _ _ _ _ _ _ _ _ _ wa.drew
  have hS0 := hS0.drew
  generalize wa.drew = wb at *
  refine Tkc.takeC (i := 0) (v := .int .i64 (N : Int)) rfl (by kernel_rfl) (by kernel_rfl) (by kernel_rfl) (fun _ _ _ h => h) (by decide) (by kernel_rfl) (by kernel_rfl) trivial ⟨by rfl, fun w hw => by go_simp⟩ ?_
  try go_frame
  refine Tkc.takeC (i := 2) (v := .int .i64 (N : Int)) rfl (by kernel_rfl) (by kernel_rfl) (by kernel_rfl) (fun _ _ _ h => h) (by decide) (by kernel_rfl) (by kernel_rfl) trivial ⟨by rfl, fun w hw => by go_simp⟩ ?_
  try go_frame
  refine forkC (js := [1, 3, 5]) (by kernel_rfl) (by simp) (fun _ => trivial) (fun j hj => ?_)
  rcases (show j = 1 ∨ j = 3 ∨ j = 5 by simpa using hj) with rfl | rfl | rfl
  · refine opC (i := 1) rfl (by rfl) (fun K1 hK1 => ?_)
    refine step_make (base := wa.heap.size) (.tmp 18) (.tmp 18) rfl (by simp [Act.eval]) (by simp [Act.eval]) hnH.out hS0.bl.size ?_
    intro w1 hrow1 hg1
    refine hK1 _ _ ?_
    clear hK1 K1
    have hS1 := hS0.makeE hrow1 hg1
    try go_frame
    refine forkC (js := [3, 5]) (by kernel_rfl) (by simp) (fun _ => trivial) (fun j hj => ?_)
    rcases (show j = 3 ∨ j = 5 by simpa using hj) with rfl | rfl
    · refine opC (i := 3) rfl (by rfl) (fun K1 hK1 => ?_)
      refine step_make (base := wa.heap.size) (.tmp 20) (.tmp 20) rfl (by simp [Act.eval]) (by simp [Act.eval]) hnH.out hS1.bl.size ?_
      intro w2 hrow2 hg2
      refine hK1 _ _ ?_
      clear hK1 K1
      have hS2 := hS1.makeL hrow2 hg2
      try go_frame
      refine Tkc.takeC (i := 4) (v := .agg #[.slice (some ⟨wb.heap.size, 0, none⟩) N N, .slice (some ⟨w1.heap.size, 0, none⟩) N N, .int .i64 0]) rfl (by kernel_rfl) (by kernel_rfl) (by kernel_rfl) (fun _ _ _ h => h) (by decide) (by kernel_rfl) (by kernel_rfl) trivial ⟨by rfl, fun w hw => by go_simp⟩ ?_
      try go_frame
      refine Tkc.onlyC (i := 5) rfl (by kernel_rfl) (fun _ => trivial) (by rfl) (fun K1 hK1 => ?_)
      go_simp
      refine hK1 _ _ ?_
      clear hK1 K1
      have hS3 := hS2.box
      try go_frame
      refine Tkc.onlyC (i := 6) rfl (by kernel_rfl) (fun _ => trivial) (by rfl) (fun K1 hK1 => ?_)
      refine wp_store_row 25 _ _ rfl w2.heap.size #[.slice (some ⟨wb.heap.size, 0, none⟩) N N, .slice (some ⟨w1.heap.size, 0, none⟩) N N, .int .i64 0] (by simp [Act.eval]) (by simp [Act.eval]) _ _ (hS3.p _ rfl) (plan_info _ rfl) rfl (plan_one _ _ _ _ _ _ _) (hK1 _ _ ?_)
      clear hK1 K1
      try go_frame
      refine Tkc.doneC (by kernel_rfl) (fun _ => trivial) ?_
      exact key _ _ _ _ hS3.done
    · refine opC (i := 5) rfl (by rfl) (fun K1 hK1 => ?_)
      go_simp
      refine hK1 _ _ ?_
      clear hK1 K1
      have hS4 := hS1.box
      try go_frame
      refine Tkc.onlyC (i := 3) rfl (by kernel_rfl) (fun _ => trivial) (by rfl) (fun K1 hK1 => ?_)
      refine step_make (base := wa.heap.size) (.tmp 20) (.tmp 20) rfl (by simp [Act.eval]) (by simp [Act.eval]) hnH.out hS4.bl.size ?_
      intro w5 hrow5 hg5
      refine hK1 _ _ ?_
      clear hK1 K1
      have hS5 := hS4.makeL hrow5 hg5
      try go_frame
      refine Tkc.takeC (i := 4) (v := .agg #[.slice (some ⟨wb.heap.size, 0, none⟩) N N, .slice (some ⟨(w1.alloc (.cells #[.slice none 0 0, .slice none 0 0, .int .i64 0] 25)).heap.size, 0, none⟩) N N, .int .i64 0]) rfl (by kernel_rfl) (by kernel_rfl) (by kernel_rfl) (fun _ _ _ h => h) (by decide) (by kernel_rfl) (by kernel_rfl) trivial ⟨by rfl, fun w hw => by go_simp⟩ ?_
      try go_frame
      refine Tkc.onlyC (i := 6) rfl (by kernel_rfl) (fun _ => trivial) (by rfl) (fun K1 hK1 => ?_)
      refine wp_store_row 25 _ _ rfl w1.heap.size #[.slice (some ⟨wb.heap.size, 0, none⟩) N N, .slice (some ⟨(w1.alloc (.cells #[.slice none 0 0, .slice none 0 0, .int .i64 0] 25)).heap.size, 0, none⟩) N N, .int .i64 0] (by simp [Act.eval]) (by simp [Act.eval]) _ _ (hS5.p _ rfl) (plan_info _ rfl) rfl (plan_one _ _ _ _ _ _ _) (hK1 _ _ ?_)
      clear hK1 K1
      try go_frame
      refine Tkc.doneC (by kernel_rfl) (fun _ => trivial) ?_
      exact key _ _ _ _ hS5.done
  · refine opC (i := 3) rfl (by rfl) (fun K1 hK1 => ?_)
    refine step_make (base := wa.heap.size) (.tmp 20) (.tmp 20) rfl (by simp [Act.eval]) (by simp [Act.eval]) hnH.out hS0.bl.size ?_
    intro w6 hrow6 hg6
    refine hK1 _ _ ?_
    clear hK1 K1
    have hS6 := hS0.makeL hrow6 hg6
    try go_frame
    refine forkC (js := [1, 5]) (by kernel_rfl) (by simp) (fun _ => trivial) (fun j hj => ?_)
    rcases (show j = 1 ∨ j = 5 by simpa using hj) with rfl | rfl
    · refine opC (i := 1) rfl (by rfl) (fun K1 hK1 => ?_)
      refine step_make (base := wa.heap.size) (.tmp 18) (.tmp 18) rfl (by simp [Act.eval]) (by simp [Act.eval]) hnH.out hS6.bl.size ?_
      intro w7 hrow7 hg7
      refine hK1 _ _ ?_
      clear hK1 K1
      have hS7 := hS6.makeE hrow7 hg7
      try go_frame
      refine Tkc.takeC (i := 4) (v := .agg #[.slice (some ⟨w6.heap.size, 0, none⟩) N N, .slice (some ⟨wb.heap.size, 0, none⟩) N N, .int .i64 0]) rfl (by kernel_rfl) (by kernel_rfl) (by kernel_rfl) (fun _ _ _ h => h) (by decide) (by kernel_rfl) (by kernel_rfl) trivial ⟨by rfl, fun w hw => by go_simp⟩ ?_
      try go_frame
      refine Tkc.onlyC (i := 5) rfl (by kernel_rfl) (fun _ => trivial) (by rfl) (fun K1 hK1 => ?_)
      go_simp
      refine hK1 _ _ ?_
      clear hK1 K1
      have hS8 := hS7.box
      try go_frame
      refine Tkc.onlyC (i := 6) rfl (by kernel_rfl) (fun _ => trivial) (by rfl) (fun K1 hK1 => ?_)
      refine wp_store_row 25 _ _ rfl w7.heap.size #[.slice (some ⟨w6.heap.size, 0, none⟩) N N, .slice (some ⟨wb.heap.size, 0, none⟩) N N, .int .i64 0] (by simp [Act.eval]) (by simp [Act.eval]) _ _ (hS8.p _ rfl) (plan_info _ rfl) rfl (plan_one _ _ _ _ _ _ _) (hK1 _ _ ?_)
      clear hK1 K1
      try go_frame
      refine Tkc.doneC (by kernel_rfl) (fun _ => trivial) ?_
      exact key _ _ _ _ hS8.done
    · refine opC (i := 5) rfl (by rfl) (fun K1 hK1 => ?_)
      go_simp
      refine hK1 _ _ ?_
      clear hK1 K1
      have hS9 := hS6.box
      try go_frame
      refine Tkc.onlyC (i := 1) rfl (by kernel_rfl) (fun _ => trivial) (by rfl) (fun K1 hK1 => ?_)
      refine step_make (base := wa.heap.size) (.tmp 18) (.tmp 18) rfl (by simp [Act.eval]) (by simp [Act.eval]) hnH.out hS9.bl.size ?_
      intro w10 hrow10 hg10
      refine hK1 _ _ ?_
      clear hK1 K1
      have hS10 := hS9.makeE hrow10 hg10
      try go_frame
      refine Tkc.takeC (i := 4) (v := .agg #[.slice (some ⟨(w6.alloc (.cells #[.slice none 0 0, .slice none 0 0, .int .i64 0] 25)).heap.size, 0, none⟩) N N, .slice (some ⟨wb.heap.size, 0, none⟩) N N, .int .i64 0]) rfl (by kernel_rfl) (by kernel_rfl) (by kernel_rfl) (fun _ _ _ h => h) (by decide) (by kernel_rfl) (by kernel_rfl) trivial ⟨by rfl, fun w hw => by go_simp⟩ ?_
      try go_frame
      refine Tkc.onlyC (i := 6) rfl (by kernel_rfl) (fun _ => trivial) (by rfl) (fun K1 hK1 => ?_)
      refine wp_store_row 25 _ _ rfl w6.heap.size #[.slice (some ⟨(w6.alloc (.cells #[.slice none 0 0, .slice none 0 0, .int .i64 0] 25)).heap.size, 0, none⟩) N N, .slice (some ⟨wb.heap.size, 0, none⟩) N N, .int .i64 0] (by simp [Act.eval]) (by simp [Act.eval]) _ _ (hS10.p _ rfl) (plan_info _ rfl) rfl (plan_one _ _ _ _ _ _ _) (hK1 _ _ ?_)
      clear hK1 K1
      try go_frame
      refine Tkc.doneC (by kernel_rfl) (fun _ => trivial) ?_
      exact key _ _ _ _ hS10.done
  · refine opC (i := 5) rfl (by rfl) (fun K1 hK1 => ?_)
    go_simp
    refine hK1 _ _ ?_
    clear hK1 K1
    have hS11 := hS0.box
    try go_frame
    refine forkC (js := [1, 3]) (by kernel_rfl) (by simp) (fun _ => trivial) (fun j hj => ?_)
    rcases (show j = 1 ∨ j = 3 by simpa using hj) with rfl | rfl
    · refine opC (i := 1) rfl (by rfl) (fun K1 hK1 => ?_)
      refine step_make (base := wa.heap.size) (.tmp 18) (.tmp 18) rfl (by simp [Act.eval]) (by simp [Act.eval]) hnH.out hS11.bl.size ?_
      intro w12 hrow12 hg12
      refine hK1 _ _ ?_
      clear hK1 K1
      have hS12 := hS11.makeE hrow12 hg12
      try go_frame
      refine Tkc.onlyC (i := 3) rfl (by kernel_rfl) (fun _ => trivial) (by rfl) (fun K1 hK1 => ?_)
      refine step_make (base := wa.heap.size) (.tmp 20) (.tmp 20) rfl (by simp [Act.eval]) (by simp [Act.eval]) hnH.out hS12.bl.size ?_
      intro w13 hrow13 hg13
      refine hK1 _ _ ?_
      clear hK1 K1
      have hS13 := hS12.makeL hrow13 hg13
      try go_frame
      refine Tkc.takeC (i := 4) (v := .agg #[.slice (some ⟨(wb.alloc (.cells #[.slice none 0 0, .slice none 0 0, .int .i64 0] 25)).heap.size, 0, none⟩) N N, .slice (some ⟨w12.heap.size, 0, none⟩) N N, .int .i64 0]) rfl (by kernel_rfl) (by kernel_rfl) (by kernel_rfl) (fun _ _ _ h => h) (by decide) (by kernel_rfl) (by kernel_rfl) trivial ⟨by rfl, fun w hw => by go_simp⟩ ?_
      try go_frame
      refine Tkc.onlyC (i := 6) rfl (by kernel_rfl) (fun _ => trivial) (by rfl) (fun K1 hK1 => ?_)
      refine wp_store_row 25 _ _ rfl wb.heap.size #[.slice (some ⟨(wb.alloc (.cells #[.slice none 0 0, .slice none 0 0, .int .i64 0] 25)).heap.size, 0, none⟩) N N, .slice (some ⟨w12.heap.size, 0, none⟩) N N, .int .i64 0] (by simp [Act.eval]) (by simp [Act.eval]) _ _ (hS13.p _ rfl) (plan_info _ rfl) rfl (plan_one _ _ _ _ _ _ _) (hK1 _ _ ?_)
      clear hK1 K1
      try go_frame
      refine Tkc.doneC (by kernel_rfl) (fun _ => trivial) ?_
      exact key _ _ _ _ hS13.done
    · refine opC (i := 3) rfl (by rfl) (fun K1 hK1 => ?_)
      refine step_make (base := wa.heap.size) (.tmp 20) (.tmp 20) rfl (by simp [Act.eval]) (by simp [Act.eval]) hnH.out hS11.bl.size ?_
      intro w14 hrow14 hg14
      refine hK1 _ _ ?_
      clear hK1 K1
      have hS14 := hS11.makeL hrow14 hg14
      try go_frame
      refine Tkc.onlyC (i := 1) rfl (by kernel_rfl) (fun _ => trivial) (by rfl) (fun K1 hK1 => ?_)
      refine step_make (base := wa.heap.size) (.tmp 18) (.tmp 18) rfl (by simp [Act.eval]) (by simp [Act.eval]) hnH.out hS14.bl.size ?_
      intro w15 hrow15 hg15
      refine hK1 _ _ ?_
      clear hK1 K1
      have hS15 := hS14.makeE hrow15 hg15
      try go_frame
      refine Tkc.takeC (i := 4) (v := .agg #[.slice (some ⟨w14.heap.size, 0, none⟩) N N, .slice (some ⟨(wb.alloc (.cells #[.slice none 0 0, .slice none 0 0, .int .i64 0] 25)).heap.size, 0, none⟩) N N, .int .i64 0]) rfl (by kernel_rfl) (by kernel_rfl) (by kernel_rfl) (fun _ _ _ h => h) (by decide) (by kernel_rfl) (by kernel_rfl) trivial ⟨by rfl, fun w hw => by go_simp⟩ ?_
      try go_frame
      refine Tkc.onlyC (i := 6) rfl (by kernel_rfl) (fun _ => trivial) (by rfl) (fun K1 hK1 => ?_)
      refine wp_store_row 25 _ _ rfl wb.heap.size #[.slice (some ⟨w14.heap.size, 0, none⟩) N N, .slice (some ⟨(wb.alloc (.cells #[.slice none 0 0, .slice none 0 0, .int .i64 0] 25)).heap.size, 0, none⟩) N N, .int .i64 0] (by simp [Act.eval]) (by simp [Act.eval]) _ _ (hS15.p _ rfl) (plan_info _ rfl) rfl (plan_one _ _ _ _ _ _ _) (hK1 _ _ ?_)
      clear hK1 K1
      try go_frame
      refine Tkc.doneC (by kernel_rfl) (fun _ => trivial) ?_
      exact key _ _ _ _ hS15.done
end Go.Proofs.YtknhbpnbbnjioaaDoor
