/- path.latest. -/
import Derived.Test.YthfpdbogbmccjaaDoorPlb
import Derived.Test.YthfpdbogbmccjaaDoorPlm
import Derived.Test.YthfpdbogbmccjaaDoorTkc
namespace Go.Proofs.YthfpdbogbmccjaaDoor
open Go.RowKit Go.Shelf Gm Pm
set_option linter.unusedSectionVars false
set_option linter.unusedVariables false
attribute [local go_sem] Oper.semAt_some

theorem backward_any (a : Option Addr) (len cap : Nat) (w : World) : Calls Tryd.prog 38 #[.slice a len cap] w fun e w' => e = .returned (.func (.func 47) #[] #[.pointer (some ⟨w.heap.size, 0, none⟩)]) ∧ w' = w.alloc (.cells #[.slice a len cap] 47) := by
  go_enter Tryd.func38, Tryd.ntmps38
  go_wp2
  go_ret
  exact ⟨rfl, rfl⟩
/-- What is told when some have come. -/
def ltF {n : Nat} (l : List Ed) (D : Nat → Int) (S : Int) (xs : List (Pr n)) : Nat → Int := xs.foldl (fun L x => ltS l D S L x.1.2) fun _ => 0
theorem ltF_snoc {n : Nat} (l : List Ed) (D : Nat → Int) (S : Int) (xs : List (Pr n)) (x : Pr n) : ltF l D S (xs ++ [x]) = ltS l D S (ltF l D S xs) x.1.2 := by simp [ltF]
theorem ltF_all {n : Nat} {l : List Ed} {D : Nat → Int} {S : Int} {R : List Nat} (hg : Gr n l) (hT : Tpo l n R) (hD : ∀ i, i < n → 0 ≤ D i ∧ D i ≤ 1000000000) (hS : 0 ≤ S ∧ S ≤ 100000000000) {xs : List (Pr n)} (hx : xs.map (·.1) = bk R n 0) : Latl l D n S (ltF l D S xs) := by
  have key : ∀ t (ys : List (Pr n)), t ≤ n → ys.map (·.1) = bk R n (n - t) → LtI l D S R n (n - t) (ltF l D S ys) := by
    intro t
    induction t with
    | zero =>
      intro ys _ hy
      have : ys = [] := by
        have := congrArg List.length hy
        rw [List.length_map, bk_len] at this
        exact List.length_eq_zero_iff.1 (by omega)
      subst this
      exact LtI.start hT
    | succ t ih =>
      intro ys ht hy
      rw [bk_step (by omega), show n - (t + 1) + 1 = n - t by omega] at hy
      obtain ⟨zs, ws, rfl, h1, h2⟩ := List.map_eq_append_iff.1 hy
      obtain ⟨x, rfl, hx2⟩ : ∃ x, ws = [x] ∧ x.1 = (n - (t + 1), bn R (n - (t + 1))) := by
        cases ws with
        | nil => simp at h2
        | cons x r =>
          cases r with
          | nil => exact ⟨x, rfl, by simpa using h2⟩
          | cons y r => simp at h2
      rw [ltF_snoc, hx2]
      have := ih zs (by omega) h1
      rw [show n - t = n - (t + 1) + 1 by omega] at this
      exact this.step hg hT hD hS (by omega)
  have := key n xs (Nat.le_refl _) (by rw [Nat.sub_self]; exact hx)
  rw [Nat.sub_self] at this
  exact this.done hg hT

set_option maxHeartbeats 2000000 in
set_option maxRecDepth 100000 in
theorem latest_any {n : Nat} {w : World} {l : List Ed} {d : List Int} {R : List Nat} {S : Int} {B1 B2 gn : Nat} {pr pd : Option Addr} {cr cd : Nat} (hg : Gr n l) (hl : l.length ≤ 400) (hT : Tpo l n R) (hR : w.ownsRow B1 3 1 (.slice pr n cr) n (ints R)) (hN : Nx w B2 gn n (suc l)) (hd : Nums w pd d) (hdn : d.length = n) (hD : ∀ i, i < n → 0 ≤ nm d i ∧ nm d i ≤ 1000000000) (hS : 0 ≤ S ∧ S ≤ 100000000000) :
    Calls Tryd.prog 25 #[.slice pr n cr, .slice (some ⟨gn, 0, none⟩) n n, .slice pd n cd, .int .i64 S] w fun e w' => (∃ L p c, e = .returned (.slice p n c) ∧ w'.ownsRow w.heap.size 2 1 (.slice p n c) n (numf L n) ∧ Latl l (nm d) n S L) ∧ Below w.heap.size w w' := by
  have hgH : Hid (Gr n l) := hg
  have hlH : Hid (l.length ≤ 400) := hl
  have hnH : Hid (n ≤ 60) := hg.n60
  have hTH : Hid (Tpo l n R) := hT
  have hDH : Hid (∀ i, i < n → 0 ≤ nm d i ∧ nm d i ≤ 1000000000) := hD
  have hSH : Hid (0 ≤ S ∧ S ≤ 100000000000) := hS
  have hdnH : Hid (d.length = n) := hdn
  have hRH : Hid (w.ownsRow B1 3 1 (.slice pr n cr) n (ints R)) := hR
  have hNH : Hid (Nx w B2 gn n (suc l)) := hN
  have hdH : Hid (Nums w pd d) := hd
  clear hg hl hT hR hN hd hdn hD hS
  refine (callsIn_wide (n := 5)).1 ?_
  refine callsIn_of_wp_marks Tryd.func25 rfl trivial ?_ rfl
  simp only [Tryd.ntmps25, List.size_toArray, List.length_cons, List.length_nil, Nat.reduceAdd, Nat.reduceSub, Array.replicate_succ, Array.replicate_zero, List.push_toArray, List.append_toArray, List.nil_append, List.cons_append]
  refine wpIn_wide.2 ?_
  go_wp2_with (first
    | (at_make; obtain ⟨i0, hi, hz0, hz1, hz2⟩ := info_parts info_i64; refine wpList_make_full _ rfl _ _ 23 rfl (w.heap.size + 3) 2 i0 (.int .i64 0) 1 Tryd.underlying23 hi hz0 hz1 _ _ _ _ n rfl rfl rfl rfl (by rw [hz2]; have := hnH.out; omega) (by unfold maxLen; have := hnH.out; omega) (by simp) ?_; intro w1 hown1 hgrow1; clear hi hz0 hz1 hz2)
    | (go_at_call 38; refine (backward_any _ _ _ _).mono ?_; rintro e w' ⟨rfl, rfl⟩)
    | go_in)
  have hsz3 : (((w.alloc (.cells #[.slice (some ⟨gn, 0, none⟩) n n] 43)).alloc (.cells #[.slice pd n cd] 23)).alloc (.cells #[.int .i64 S] 2)).heap.size = w.heap.size + 1 + 1 + 1 := by simp
  have hB3 : Below w.heap.size w (((w.alloc (.cells #[.slice (some ⟨gn, 0, none⟩) n n] 43)).alloc (.cells #[.slice pd n cd] 23)).alloc (.cells #[.int .i64 S] 2)) := (((Below.refl _ w).alloc (Nat.le_refl _) _).alloc (by simp) _).alloc (by simp; omega) _
  have q0 : (((w.alloc (.cells #[.slice (some ⟨gn, 0, none⟩) n n] 43)).alloc (.cells #[.slice pd n cd] 23)).alloc (.cells #[.int .i64 S] 2)).cell? ⟨w.heap.size, 0, none⟩ = some (.slice (some ⟨gn, 0, none⟩) n n) := cell_alloc (cell_alloc ((cell_of_row _ _ 0 _ _ _ (heap_alloc_new w _)).trans rfl) _) _
  have q1 : (((w.alloc (.cells #[.slice (some ⟨gn, 0, none⟩) n n] 43)).alloc (.cells #[.slice pd n cd] 23)).alloc (.cells #[.int .i64 S] 2)).cell? ⟨w.heap.size + 1, 0, none⟩ = some (.slice pd n cd) := by
    have := (cell_of_row _ _ 0 _ _ _ (heap_alloc_new (w.alloc (.cells #[.slice (some ⟨gn, 0, none⟩) n n] 43)) (.cells #[.slice pd n cd] 23))).trans rfl
    rw [World.size_alloc] at this
    exact cell_alloc this _
  have q2 : (((w.alloc (.cells #[.slice (some ⟨gn, 0, none⟩) n n] 43)).alloc (.cells #[.slice pd n cd] 23)).alloc (.cells #[.int .i64 S] 2)).cell? ⟨w.heap.size + 1 + 1, 0, none⟩ = some (.int .i64 S) := by
    have := (cell_of_row _ _ 0 _ _ _ (heap_alloc_new ((w.alloc (.cells #[.slice (some ⟨gn, 0, none⟩) n n] 43)).alloc (.cells #[.slice pd n cd] 23)) (.cells #[.int .i64 S] 2))).trans rfl
    rw [World.size_alloc, World.size_alloc] at this
    exact this
  rw [hsz3] at hown1
  generalize ((w.alloc (.cells #[.slice (some ⟨gn, 0, none⟩) n n] 43)).alloc (.cells #[.slice pd n cd] 23)).alloc (.cells #[.int .i64 S] 2) = w3 at *
  have hat1 : w1.ownsRow (w.heap.size + 3) 2 1 (.slice (some ⟨w.heap.size + 1 + 1 + 1, 0, none⟩) n n) n (numf (fun _ => 0) n) := by
    have e : (madeCells (Value.int .i64 0).cells (n * 1)).toList = numf (fun _ => 0) n := by
      rw [numf_zero, Nat.mul_one]
      exact toList_madeCells_one _ _
    rw [← e]; exact hown1
  have hB1 : Below w3.heap.size w3 w1 := ⟨hgrow1.os, hgrow1.tape, hgrow1.output, hgrow1.size, fun k hk => hgrow1.block k hk (by simp)⟩
  have hBw : Below w.heap.size w w1 := hB3.trans (hB1.mono (by rw [hsz3]; omega))
  have hgl : w.heap.size + 1 + 1 + 1 < w1.heap.size := (hat1.lt _ rfl).2
  have q0' := (hB1.cell (p := ⟨w.heap.size, 0, none⟩) (by show w.heap.size < _; rw [hsz3]; omega)).trans q0
  have q1' := (hB1.cell (p := ⟨w.heap.size + 1, 0, none⟩) (by show w.heap.size + 1 < _; rw [hsz3]; omega)).trans q1
  have q2' := (hB1.cell (p := ⟨w.heap.size + 1 + 1, 0, none⟩) (by show w.heap.size + 1 + 1 < _; rw [hsz3]; omega)).trans q2
  clear hown1 hgrow1 q0 q1 q2 hB1 hB3 hsz3
  -- the box of the row that is made, and the row's own
  have hB5 : Below w.heap.size w ((w1.alloc (.cells #[.slice (some ⟨w.heap.size + 1 + 1 + 1, 0, none⟩) n n] 23)).alloc (.cells #[.slice pr n cr] 47)) := (hBw.alloc hBw.size _).alloc (by simp; omega) _
  have r0 := cell_alloc (cell_alloc q0' (.cells #[.slice (some ⟨w.heap.size + 1 + 1 + 1, 0, none⟩) n n] 23)) (.cells #[.slice pr n cr] 47)
  have r1 := cell_alloc (cell_alloc q1' (.cells #[.slice (some ⟨w.heap.size + 1 + 1 + 1, 0, none⟩) n n] 23)) (.cells #[.slice pr n cr] 47)
  have r2 := cell_alloc (cell_alloc q2' (.cells #[.slice (some ⟨w.heap.size + 1 + 1 + 1, 0, none⟩) n n] 23)) (.cells #[.slice pr n cr] 47)
  have r3 : ((w1.alloc (.cells #[.slice (some ⟨w.heap.size + 1 + 1 + 1, 0, none⟩) n n] 23)).alloc (.cells #[.slice pr n cr] 47)).cell? ⟨w1.heap.size, 0, none⟩ = some (.slice (some ⟨w.heap.size + 1 + 1 + 1, 0, none⟩) n n) := cell_alloc ((cell_of_row _ _ 0 _ _ _ (heap_alloc_new w1 _)).trans rfl) _
  have r4 : ((w1.alloc (.cells #[.slice (some ⟨w.heap.size + 1 + 1 + 1, 0, none⟩) n n] 23)).alloc (.cells #[.slice pr n cr] 47)).cell? ⟨w1.heap.size + 1, 0, none⟩ = some (.slice pr n cr) := by
    have := (cell_of_row _ _ 0 _ _ _ (heap_alloc_new (w1.alloc (.cells #[.slice (some ⟨w.heap.size + 1 + 1 + 1, 0, none⟩) n n] 23)) (.cells #[.slice pr n cr] 47))).trans rfl
    rw [World.size_alloc] at this
    exact this
  have hat2 := (hat1.alloc (.cells #[.slice (some ⟨w.heap.size + 1 + 1 + 1, 0, none⟩) n n] 23)).alloc (.cells #[.slice pr n cr] 47)
  have hs5 : ((w1.alloc (.cells #[.slice (some ⟨w.heap.size + 1 + 1 + 1, 0, none⟩) n n] 23)).alloc (.cells #[.slice pr n cr] 47)).heap.size = w1.heap.size + 1 + 1 := by simp
  generalize (w1.alloc (.cells #[.slice (some ⟨w.heap.size + 1 + 1 + 1, 0, none⟩) n n] 23)).alloc (.cells #[.slice pr n cr] 47) = w5 at *
  clear hat1 hBw q0' q1' q2'
  obtain ⟨gL, hgL⟩ : ∃ gL, w.heap.size + 1 + 1 + 1 = gL := ⟨_, rfl⟩
  obtain ⟨gB, hgB⟩ : ∃ gB, w1.heap.size = gB := ⟨_, rfl⟩
  rw [hgL] at hgl r3 hat2 ⊢
  rw [hgB] at hgl r3 r4 hs5 ⊢
  have hrow5 := row_below hRH.out (hB5)
  have hN5 := hNH.out.below hB5
  have hd5 := hdH.out.below hB5 (Nat.le_refl _)
  refine (wpIn_wide (n := 5)).1 ?_
  refine wpIn_rangeFunc_ownF rfl (by omega) (gf := 47) (lb := #[.pointer (some ⟨gB + 1, 0, none⟩)]) rfl trivial (enters_of Tryd.func47 (by kernel_rfl) rfl)
    (encs := fun x : Pr n => #[Value.int .i64 (x.1.1 : Int), Value.int .i64 (x.1.2 : Int)]) (Kp := Kx (gB + 1 + 1) gL) (S := fun ys => ys.map (·.1) = bk R n 0) (Sp := fun _ => True) (N := n) (w0 := w5)
    (fun l' J Jx W hW _ _ hY h0 => back1_in 4 (by omega) l' (gB + 1) n (gB + 1 + 1) gL cr pr R hnH.out (fun j hj => hTH.out.lt _ (bn_mem (by rw [hTH.out.len]; exact hj))) (by omega) (by omega) J Jx hY W ((hW.cell (p := ⟨gB + 1, 0, none⟩) (by show gB + 1 < _; rw [hs5]; omega)).trans r4) (fun j hj => by
      obtain ⟨g, e, c, _⟩ := row_at hRH.out hTH.out.len hj
      have hlt : g < w.heap.size := World.block_lt_of_cell? w _ c
      exact ⟨g, e, by omega, by omega, ((hB5.trans (hW.mono hB5.size)).cell (p := ⟨g, j, none⟩) hlt).trans c⟩) h0)
    (fun h1 h2 => h1.trans h2) (fun W l o o' h1 h2 h3 h4 => Kx.put (w := w5) (by rw [hs5]; exact Nat.le_refl _) W l o o' h1 h2 h3 h4) (Below.refl _ _) (fun _ => rfl)
    (fun pre W => (W.ownsRow gL 2 1 (.slice (some ⟨gL, 0, none⟩) n n) n (numf (ltF l (nm d) S pre) n) ∧ Kx (gB + 1 + 1) gL w5 W) ∧ Below w.heap.size w W)
    (fun _ _ _ => False) ?hI (fun _ _ _ _ _ hs _ _ => hs) ⟨⟨hat2, Kx.refl _ _ _⟩, hB5⟩
    (fun x => { tmps := #[.slice pr n cr, .slice (some ⟨gn, 0, none⟩) n n, .slice pd n cd, .int .i64 S, undef, .pointer (some ⟨w.heap.size, 0, none⟩), .pointer (some ⟨w.heap.size + 1, 0, none⟩), .pointer (some ⟨w.heap.size + 1 + 1, 0, none⟩), .slice none 0 0, .pointer (some ⟨gB, 0, none⟩), undef, .int .i64 (x.1.2 : Int), undef, undef, undef, .slice pr n cr, .int .i64 (n : Int), .slice (some ⟨gL, 0, none⟩) n n, .slice pr n cr, .func (.func 47) #[] #[.pointer (some ⟨gB + 1, 0, none⟩)], .int .i64 (x.1.1 : Int), .int .i64 (x.1.2 : Int), undef, undef, undef, undef, undef, undef, undef, undef, undef, undef, undef, undef, undef, undef, undef, undef, undef, undef, undef, undef, undef, undef, undef, undef, undef, undef, undef], defers := [] }) ?assign ?body ?done ?stop
  case hI =>
    refine OwnFrom.and (fun s W W' row hs hg hr => ⟨hs.1.kept hg (Or.inr fun e => ?_), ⟨Nat.le_trans hs.2.size hg.size, fun k hk hkg => ?_⟩⟩) (ownFrom_below (Nat.le_refl _) hB5.size)
    · have := (hr gL e.symm).1
      rw [hs5] at this
      omega
    · refine (hg.block k ?_ (fun e => ?_)).trans (hs.2.block k hk hkg)
      · have := hs.2.size; rw [hs5] at this; omega
      · have := (hr k e.symm).1
        rw [hs5] at this
        omega
  case assign =>
    intro l x W K hK
    gi_wp2
    exact hK
  case stop =>
    rintro D c pre W _ _ h _
    exact h.elim
  case done =>
    rintro D ys W hD hys ⟨⟨hrw, hKx⟩, hBW⟩ hK
    have c3 : W.cell? ⟨gB, 0, none⟩ = some (.slice (some ⟨gL, 0, none⟩) n n) := (hKx.cell (by omega) (by omega)).trans r3
    have hlat : Hid (Latl l (nm d) n S (ltF l (nm d) S ys)) := ltF_all hgH.out hTH.out hDH.out hSH.out hys
    go_wp2
    refine ⟨by simp, .inl ⟨_, _, rfl, run_takeDeferred hK, ?_⟩⟩
    exact ⟨_, results_tmp rfl _ _ _, ⟨_, _, _, rfl, owns_base' (ownsRow_putObj hrw _ hK rfl) (by omega), hlat.out⟩, hBW.trans (belowK_b (w := w) (Nat.le_refl _) W D _ _ (by have := hB5.size; omega) hK rfl rfl)⟩
  case body =>
    rintro l' pre ⟨⟨ix, i⟩, hi'⟩ W ⟨⟨hrw, hKx⟩, hBW⟩ hlen
    have hi : i < n := hi'
    have c0 : W.cell? ⟨w.heap.size, 0, none⟩ = some (.slice (some ⟨gn, 0, none⟩) n n) := (hKx.cell (by omega) (by omega)).trans r0
    have c1 : W.cell? ⟨w.heap.size + 1, 0, none⟩ = some (.slice pd n cd) := (hKx.cell (by omega) (by omega)).trans r1
    have c2 : W.cell? ⟨w.heap.size + 1 + 1, 0, none⟩ = some (.int .i64 S) := (hKx.cell (by omega) (by omega)).trans r2
    have c3 : W.cell? ⟨gB, 0, none⟩ = some (.slice (some ⟨gL, 0, none⟩) n n) := (hKx.cell (by omega) (by omega)).trans r3
    obtain ⟨ps, cs, n0, n1⟩ := (hNH.out.below hBW).c i hi
    obtain ⟨b, o, hpd, d0⟩ : ∃ b o, pd = some ⟨b, o, none⟩ ∧ W.cell? ⟨b, o + i, none⟩ = some (.int .i64 (nm d i)) := by
      rcases hdH.out.below hBW (Nat.le_refl _) with h0 | ⟨b, o, e, hA⟩
      · have := hdnH.out; omega
      · exact ⟨b, o, e, hA.c i (by have := hdnH.out; omega)⟩
    subst hpd
    have hsuc : Hid (∀ k, k < (suc l i).length → bn (suc l i) k < n) := fun k hk => by
      have hm : bn (suc l i) k ∈ suc l i := bn_mem hk
      exact (hgH.out.lt ((mem_suc hgH.out).1 hm)).2
    have hsl : Hid ((suc l i).length ≤ 400) := by have := suc_len l i; have := hlH.out; show _ ≤ _; omega
    have hstH : Hid (ltF l (nm d) S (pre ++ [(⟨(ix, i), hi'⟩ : Pr n)]) = ltS l (nm d) S (ltF l (nm d) S pre) i) := ltF_snoc _ _ _ _ _
    have hst2 : Hid (ltS l (nm d) S (ltF l (nm d) S pre) i = fp (ltF l (nm d) S pre) i (wrap64 (mnL S (ltF l (nm d) S pre) (suc l i) - nm d i))) := rfl
    have hrwH : Hid (W.ownsRow gL 2 1 (.slice (some ⟨gL, 0, none⟩) n n) n (numf (ltF l (nm d) S pre) n)) := hrw
    have hKxH : Hid (Kx (gB + 1 + 1) gL w5 W) := hKx
    have hBWH : Hid (Below w.heap.size w W) := hBW
    generalize ltF l (nm d) S pre = L at *
    generalize suc l i = s at *
    generalize nm d i = x at *
    obtain ⟨a, ha⟩ : ∃ a, s.length = a := ⟨_, rfl⟩
    rw [ha] at n0 n1 hsl hsuc
    have haH : Hid (s.length = a) := ha
    clear ha hrw hKx hBW hlen hN5 hd5 hrow5 r0 r1 r2 r3 r4 hat2
    have hii : (i : Int) < (n : Int) := by omega
    have hi0 : ¬ (i : Int) < 0 := by omega
    have hig : ¬ (n : Int) ≤ (i : Int) := by omega
    show Code.wpIn _ _ _ _ _ _ _
    dsimp only
    gi_wp2
    gi_loopw [12, 28] (fun bv kv wr => ∃ k : Nat, kv = .int .i64 k ∧ bv = .int .i64 (mnL S L (s.take k)) ∧ k ≤ a ∧ wr = W)
      (fun _ kv _ => a - (intOf kv).toNat)
    case atStart => exact ⟨0, rfl, rfl, Nat.zero_le _, rfl⟩
    case round =>
      obtain ⟨k, rfl, rfl, hka, rfl⟩ := hrel
      by_cases hk : k < a
      · have hki : (k : Int) < (a : Int) := by omega
        have hk2 : Hid (k ≤ 100000) := by have := hsl.out; show _ ≤ _; omega
        obtain ⟨gs, rfl, s0, _⟩ := row_at n1 haH.out hk
        have hjn := hsuc.out k hk
        have hmn : Hid (mnL S L (s.take (k + 1)) = min (mnL S L (s.take k)) (L (bn s k))) := by show _ = _; rw [take_bn (by have := haH.out; omega), mnL_snoc]
        generalize bn s k = j at *
        generalize mnL S L (s.take k) = m at *
        have y0 : wr.cell? ⟨gL, j, none⟩ = some (.int .i64 (L j)) := by rw [hrwH.out.cellAt j (by omega), numf_get hjn]
        have hji : (j : Int) < (n : Int) := by omega
        have hj0 : ¬ (j : Int) < 0 := by omega
        have hjg : ¬ (n : Int) ≤ (j : Int) := by omega
        gi_wp2
        refine ⟨⟨k + 1, ?_, ?_, hk, by first | rfl | trivial⟩, ?_⟩
        · first | exact int_succ k | exact int_wsucc hk2.out
        · rw [hmn.out]
        · first | exact meas_1 hk | exact meas_w hk hk2.out
      · have hki : ¬ (k : Int) < (a : Int) := by omega
        have e : s.take k = s := List.take_of_length_le (by have := haH.out; omega)
        rw [e]
        generalize mnL S L s = m at *
        gi_wp2
        refine wpIn_region_any (by kernel_rfl) (anyIn_of (nodef_of (by kernel_rfl)) (by rintro ⟨_, _, h⟩; exact h) _ _ _ _ (Tkc.anyC_any (C := fun w' => w' = wr.drew) (s := 9) _ _ _ _ ?_))
        change Tkc.anyC _ _ _ _ _ _ _ _ _ wr.drew
        have d3 : wr.drew.cell? ⟨gB, 0, none⟩ = some (.slice (some ⟨gL, 0, none⟩) n n) := c3
        have d1 : wr.drew.cell? ⟨w.heap.size + 1, 0, none⟩ = some (.slice (some ⟨b, o, none⟩) n cd) := c1
        have d2 : wr.drew.cell? ⟨b, o + i, none⟩ = some (.int .i64 x) := d0
        have hrd : Hid (wr.drew.ownsRow gL 2 1 (.slice (some ⟨gL, 0, none⟩) n n) n (numf L n)) := hrwH.out
        have y0 : wr.drew.cell? ⟨gL, i, none⟩ = some (.int .i64 (L i)) := by rw [hrd.out.cellAt i (by omega), numf_get hi]
        have f0 := owns_frz hrd.out i
        have hKd : Hid (KeepsOthers wr wr.drew ∧ Kx (gB + 1 + 1) gL wr wr.drew ∧ Below w.heap.size w wr.drew) := ⟨KeepsOthers.drew _, ⟨Nat.le_refl _, fun _ _ _ => rfl⟩, hBWH.out.drew⟩
        clear c0 c1 c2 c3 d0 n0 n1
        generalize wr.drew = wy at *
        refine Tkc.takeC (i := 0) (v := .slice (some ⟨gL, 0, none⟩) n n) rfl (by kernel_rfl) (by kernel_rfl) (by kernel_rfl) (fun _ _ _ h => h) (by decide) (by kernel_rfl) (by kernel_rfl) rfl ⟨by rfl, fun w hw => by obtain rfl : w = wy := hw; go_simp⟩ ?_
        go_frame
        refine Tkc.takeC (i := 1) (v := .int .i64 (i : Int)) rfl (by kernel_rfl) (by kernel_rfl) (by kernel_rfl) (fun _ _ _ h => h) (by decide) (by kernel_rfl) (by kernel_rfl) rfl ⟨by rfl, fun w hw => by obtain rfl : w = wy := hw; go_simp⟩ ?_
        go_frame
        refine Tkc.takeC (i := 2) (v := .int .i64 m) rfl (by kernel_rfl) (by kernel_rfl) (by kernel_rfl) (fun _ _ _ h => h) (by decide) (by kernel_rfl) (by kernel_rfl) rfl ⟨by rfl, fun w hw => by obtain rfl : w = wy := hw; go_simp⟩ ?_
        go_frame
        refine Tkc.takeC (i := 3) (v := .slice (some ⟨b, o, none⟩) n cd) rfl (by kernel_rfl) (by kernel_rfl) (by kernel_rfl) (fun _ _ _ h => h) (by decide) (by kernel_rfl) (by kernel_rfl) rfl ⟨by rfl, fun w hw => by obtain rfl : w = wy := hw; go_simp⟩ ?_
        go_frame
        refine Tkc.takeC (i := 4) (v := .int .i64 (i : Int)) rfl (by kernel_rfl) (by kernel_rfl) (by kernel_rfl) (fun _ _ _ h => h) (by decide) (by kernel_rfl) (by kernel_rfl) rfl ⟨by rfl, fun w hw => by obtain rfl : w = wy := hw; go_simp⟩ ?_
        go_frame
        refine Tkc.takeC (i := 5) (v := .pointer (some ⟨b, o + i, none⟩)) rfl (by kernel_rfl) (by kernel_rfl) (by kernel_rfl) (fun _ _ _ h => h) (by decide) (by kernel_rfl) (by kernel_rfl) rfl ⟨by rfl, fun w hw => by obtain rfl : w = wy := hw; go_simp⟩ ?_
        go_frame
        refine Tkc.takeC (i := 6) (v := .int .i64 x) rfl (by kernel_rfl) (by kernel_rfl) (by kernel_rfl) (fun _ _ _ h => h) (by decide) (by kernel_rfl) (by kernel_rfl) rfl ⟨by rfl, fun w hw => by obtain rfl : w = wy := hw; go_simp⟩ ?_
        go_frame
        refine Tkc.takeC (i := 7) (v := .int .i64 (wrap64 (m - x))) rfl (by kernel_rfl) (by kernel_rfl) (by kernel_rfl) (fun _ _ _ h => h) (by decide) (by kernel_rfl) (by kernel_rfl) rfl ⟨by rfl, fun w hw => by obtain rfl : w = wy := hw; go_simp; first | rfl | (rw [IntKind.wrap_i64]; rfl) | (rw [IntKind.wrap_i64]; unfold wrap64; omega)⟩ ?_
        go_frame
        refine Tkc.onlyC (i := 8) rfl (by kernel_rfl) (fun _ => rfl) (by rfl) (fun K hK => ?_)
        go_simp
        refine hK _ _ ?_
        clear hK K
        refine Tkc.onlyC (i := 9) rfl (by kernel_rfl) (fun _ => rfl) (by rfl) (fun K hK => ?_)
        go_simp
        refine hK _ _ ?_
        clear hK K
        refine Tkc.doneC (by kernel_rfl) (fun hz => by have hz' : true = false := hz; cases hz') ?_
        obtain ⟨k1, k2, k3⟩ := hKd.out
        have kx2 : Kx (gB + 1 + 1) gL wr (wy.setCell ⟨gL, i, none⟩ (.int .i64 (wrap64 (m - x)))) := k2.trans ⟨by simp [World.setCell], fun k hk hkg => Below.heap_setCell _ _ _ _ hkg⟩
        refine ⟨k1.trans (KeepsOthers.setCell _ _ _), kx2, ⟨?_, hKxH.out.trans kx2⟩, k3.setCell (p := ⟨gL, i, none⟩) (by show w.heap.size ≤ gL; omega) _⟩
        rw [hstH.out, hst2.out, ← numf_set]
        exact owns_store hrd.out _
end Go.Proofs.YthfpdbogbmccjaaDoor
