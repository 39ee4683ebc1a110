/- path.steps: for each thing the row of those to which it has an edge. -/
import Derived.Test.YthfpdbogbmccjaaDoorPw
import Derived.Test.YthfpdbogbmccjaaDoorTkc
namespace Go.Proofs.YthfpdbogbmccjaaDoor
open Go.RowKit Gm Pm
set_option linter.unusedSectionVars false
set_option linter.unusedVariables false

/-- Those to which a thing has an edge, in the edges' order. -/
def suc (l : List Ed) (i : Nat) : List Nat := (l.filter fun e => decide (e.f = (i : Int))).map fun e => e.t.toNat
theorem suc_snoc (l : List Ed) (e : Ed) (i : Nat) : suc (l ++ [e]) i = suc l i ++ (if e.f = (i : Int) then [e.t.toNat] else []) := by
  unfold suc
  rw [List.filter_append, List.map_append]
  congr 1
  by_cases h : e.f = (i : Int) <;> simp [h]
theorem suc_len (l : List Ed) (i : Nat) : (suc l i).length ≤ l.length := by
  unfold suc
  rw [List.length_map]
  exact List.length_filter_le _ _
theorem mem_suc {n : Nat} {l : List Ed} (hg : Gr n l) {i j : Nat} : j ∈ suc l i ↔ eB l i j = true := by
  unfold suc
  rw [List.mem_map, eB_true]
  constructor
  · rintro ⟨e, he, rfl⟩
    obtain ⟨h1, h2⟩ := List.mem_filter.1 he
    have := hg.ok e h1
    exact ⟨e, h1, by simpa using h2, by omega⟩
  · rintro ⟨e, he, h1, h2⟩
    exact ⟨e, List.mem_filter.2 ⟨he, by simpa using h1⟩, by omega⟩
def vals (v : Nat → Value) (n : Nat) : List Value := (List.range n).map v
theorem vals_len (v : Nat → Value) (n : Nat) : (vals v n).length = n := by simp [vals]
theorem vals_get {v : Nat → Value} {n j : Nat} (h : j < n) : (vals v n)[j]? = some (v j) := by simp [vals, h]
def vp (v : Nat → Value) (j : Nat) (x : Value) : Nat → Value := fun k => if k = j then x else v k
theorem vals_set {v : Nat → Value} {n j : Nat} {x : Value} : (vals v n).set j x = vals (vp v j x) n := by
  apply List.ext_getElem?
  intro k
  rw [List.getElem?_set]
  by_cases hk : k < n
  · rw [vals_get hk, vals_get hk, vals_len]
    by_cases e : j = k
    · subst e; simp [hk, vp]
    · have : k ≠ j := fun x => e x.symm
      simp [e, vp, this]
  · rw [List.getElem?_eq_none (by rw [vals_len]; omega), List.getElem?_eq_none (by rw [vals_len]; omega)]
    simp [vals_len]
    omega
theorem vals_zero (N : Nat) : vals (fun _ => .slice none 0 0) N = List.replicate N (.slice none 0 0) := by
  apply List.ext_getElem?
  intro k
  by_cases hk : k < N
  · rw [vals_get hk]; simp [hk]
  · rw [List.getElem?_eq_none (by rw [vals_len]; omega), List.getElem?_eq_none (by simp; omega)]
/-- Rows of things, a row of them, all of one's own: no two in one block. -/
structure NxW (w : World) (g n : Nat) (s : Nat → List Nat) (v : Nat → Value) : Prop where
  out : w.ownsRow g 47 1 (.slice (some ⟨g, 0, none⟩) n n) n (vals v n)
  inn : ∀ i, i < n → w.ownsRow (g + 1) 3 1 (v i) (s i).length (ints (s i))
  ne : ∀ i j, i < n → j < n → i ≠ j → ∀ b, (v i).ownBlock = some b → (v j).ownBlock ≠ some b
/-- As they are read. -/
structure Nx (w : World) (B g n : Nat) (s : Nat → List Nat) : Prop where
  lt : g < w.heap.size
  c : ∀ i, i < n → ∃ p c, w.cell? ⟨g, i, none⟩ = some (.slice p (s i).length c) ∧ w.ownsRow B 3 1 (.slice p (s i).length c) (s i).length (ints (s i))
theorem Nx.below {w w' : World} {B g n : Nat} {s : Nat → List Nat} (h : Nx w B g n s) (hb : Below w.heap.size w w') : Nx w' B g n s :=
  ⟨Nat.lt_of_lt_of_le h.lt hb.size, fun i hi => by
    obtain ⟨p, c, h1, h2⟩ := h.c i hi
    exact ⟨p, c, (hb.cell (p := ⟨g, i, none⟩) h.lt).trans h1, row_below h2 hb⟩⟩
theorem own_form {w : World} {B : Nat} {e : TypeId} {k : Nat} {v : Value} {n : Nat} {xs : List Value} (h : w.ownsRow B e k v n xs) : ∃ p c, v = .slice p n c := by
  rcases h.2 with ⟨rfl, rfl⟩ | ⟨g, cap, cur, rfl, _⟩
  · exact ⟨none, 0, rfl⟩
  · exact ⟨_, cap, rfl⟩
theorem NxW.nx {w : World} {g n : Nat} {s : Nat → List Nat} {v : Nat → Value} (h : NxW w g n s v) : Nx w g g n s :=
  ⟨(h.out.lt g rfl).2, fun i hi => by
    obtain ⟨p, c, e⟩ := own_form (h.inn i hi)
    refine ⟨p, c, ?_, ?_⟩
    · rw [h.out.cellAt i (by omega), vals_get hi, e]
    · rw [← e]; exact owns_base' (h.inn i hi) (Nat.le_succ g)⟩
theorem NxW.alloc {w : World} {g n : Nat} {s : Nat → List Nat} {v : Nat → Value} (h : NxW w g n s v) (o : Obj) : NxW (w.alloc o) g n s v :=
  ⟨h.out.alloc o, fun i hi => (h.inn i hi).alloc o, h.ne⟩
/-- One of the rows has grown, and is stored. -/
theorem NxW.grow {w w1 : World} {g n f : Nat} {s : Nat → List Nat} {v : Nat → Value} {v' : Value} {t : Nat} (h : NxW w g n s v) (hf : f < n) (hg : w.grownBy w1 (v f).ownBlock) (ho : w1.ownsRow (g + 1) 3 1 v' ((s f).length + 1) (ints (s f ++ [t]))) (hl : v'.ownBlock = (v f).ownBlock ∨ v'.ownBlock = some w.heap.size) :
    NxW (w1.setCell ⟨g, f, none⟩ v') g n (fun i => if i = f then s f ++ [t] else s i) (vp v f v') := by
  have hgne : ∀ i, i < n → ∀ b, (v i).ownBlock = some b → b ≠ g := fun i hi b hb => by have := ((h.inn i hi).lt b hb).1; omega
  have hout : w1.ownsRow g 47 1 (.slice (some ⟨g, 0, none⟩) n n) n (vals v n) := h.out.kept hg (Or.inr fun e => by
    have e2 : (v f).ownBlock = some g := e.symm
    exact hgne f hf g e2 rfl)
  have hv'g : ∀ b, v'.ownBlock = some b → b ≠ g := fun b hb => by have := (ho.lt b hb).1; omega
  refine ⟨?_, fun i hi => ?_, fun i j hi hj hij b hb hb2 => ?_⟩
  · rw [← vals_set]; exact owns_store hout _
  · by_cases e : i = f
    · subst e
      have : (w1.setCell ⟨g, i, none⟩ v').ownsRow (g + 1) 3 1 v' ((s i).length + 1) (ints (s i ++ [t])) := owns_set_other ho _ _ (fun b hb => hv'g b hb)
      simpa [vp] using this
    · have h1 : w1.ownsRow (g + 1) 3 1 (v i) (s i).length (ints (s i)) := (h.inn i hi).kept hg (by
        cases hb : (v i).ownBlock with
        | none => exact Or.inl rfl
        | some b => exact Or.inr fun e2 => h.ne i f hi hf e b hb (e2.symm ▸ rfl))
      have : (w1.setCell ⟨g, f, none⟩ v').ownsRow (g + 1) 3 1 (v i) (s i).length (ints (s i)) := owns_set_other h1 _ _ (fun b hb => hgne i hi b hb)
      simpa [vp, e] using this
  · have key : ∀ k, k < n → k ≠ f → ∀ b, (v k).ownBlock = some b → v'.ownBlock ≠ some b := fun k hk hkf b hb hb2 => by
      rcases hl with h2 | h2
      · rw [h2] at hb2; exact h.ne k f hk hf hkf b hb hb2
      · rw [h2] at hb2; cases hb2; have := ((h.inn k hk).lt _ hb).2; omega
    unfold vp at hb hb2
    by_cases e : i = f
    · subst e
      rw [if_pos rfl] at hb
      rw [if_neg (Ne.symm hij)] at hb2
      exact key j hj (Ne.symm hij) b hb2 hb
    · rw [if_neg e] at hb
      by_cases e2 : j = f
      · subst e2
        rw [if_pos rfl] at hb2
        exact key i hi e b hb hb2
      · rw [if_neg e2] at hb2
        exact h.ne i j hi hj hij b hb hb2

/-- An append of one, as an operation. -/
theorem step_app {w : World} {o : Oper} {a : Act} {Q : Exit → Act → World → Prop} {K : Act → World → Prop} {base : Nat} (s x : Operand) (hop : o.op = Op.call { callee := Callee.builtin Builtin.append, args := #[s, x], argTypes := #[47, 47] })
    {p : Option Addr} {m c : Nat} {xs : List Value} {u : Value} {ad : Addr} (hown : w.ownsRow base 3 1 (.slice p m c) m xs) (hs : a.eval s = .slice p m c) (hx : a.eval x = .slice (some ad) 1 1 ∧ u.oneCell' = true) (hnews : ∀ j y, [u][j]? = some y → w.cell? (ad.add j) = some y) (hm : m ≤ 400) (hbase : base ≤ w.heap.size)
    (h : ∀ g' c' w', w'.ownsRow base 3 1 (.slice (some ⟨g', 0, none⟩) (m + 1) c') (m + 1) (xs ++ [u]) → w.grownBy w' (Value.ownBlock (.slice p m c)) → (some g' = Value.ownBlock (.slice p m c) ∨ some g' = some w.heap.size) → K (a.put o.dst (.slice (some ⟨g', 0, none⟩) (m + 1) c')) w') : o.wp Tryd.prog a w K Q := by
  obtain ⟨i0, hi, hz0, hz1, hz2⟩ := info_parts info_int
  obtain ⟨v', w', hr, h2, h3, h4, h5⟩ := run_append_own_at (P := Tryd.prog) w base 47 o.type 3 i0 (.int .i64 0) 1 8 Tryd.underlying47 hi hz0 hz1 hz2 rfl (by decide) _ _ xs hown ad 1 1 [u] rfl hnews (fun y hy => by simp at hy; subst hy; exact hx.2) (by unfold maxLen; omega) (by omega) hbase
  obtain ⟨g', c', rfl⟩ := form_succ h2
  unfold Oper.wp execOp
  simp only [hop, resolve, invoke, builtin, Sem.run_bind, Sem.run_pure, Result.andThen_ok, List.map_toArray, List.map_cons, List.map_nil, hs, hx.1, hr]
  exact h g' c' w' h2 h3 h5

set_option maxHeartbeats 2000000 in
set_option maxRecDepth 100000 in
theorem psteps_any {n : Nat} {w : World} {q : Option Addr} {l : List Ed} {cap : Nat} (h : Eds w q l) (hg : Gr n l) (hl : l.length ≤ 400) :
    Calls Tryd.prog 22 #[.int .i64 (n : Int), .slice q l.length cap] w fun e w' => e = .returned (.slice (some ⟨w.heap.size, 0, none⟩) n n) ∧ Nx w' w.heap.size w.heap.size n (suc l) ∧ Below w.heap.size w w' := by
  have hgH : Hid (Gr n l) := hg
  have hlH : Hid (l.length ≤ 400) := hl
  have hnH : Hid (n ≤ 60) := hg.n60
  have hE : Hid (∀ w1, Below w.heap.size w w1 → Eds w1 q l) := fun w1 hb => h.below hb (Nat.le_refl _)
  clear h hg hl
  go_enter Tryd.func22, Tryd.ntmps22
  go_wp2_with (first
    | (at_make; obtain ⟨i0, hi, hz0, hz1, hz2⟩ := info_parts info_row; refine wpList_make_full _ rfl _ _ 43 rfl w.heap.size 47 i0 (.slice none 0 0) 1 Tryd.underlying43 hi hz0 hz1 _ _ _ _ n rfl rfl rfl rfl (by rw [hz2]; have := hnH.out; omega) (by unfold maxLen; have := hnH.out; omega) (Nat.le_refl _) ?_; intro w1 hown1 hgrow1; clear hi hz0 hz1 hz2)
    | go_in)
  have hat1 : w1.ownsRow w.heap.size 47 1 (.slice (some ⟨w.heap.size, 0, none⟩) n n) n (vals (fun _ => .slice none 0 0) n) := by
    have e : (madeCells (Value.slice none 0 0).cells (n * 1)).toList = vals (fun _ => .slice none 0 0) n := by
      rw [vals_zero, Nat.mul_one]
      exact toList_madeCells_one _ _
    rw [← e]; exact hown1
  have hB1 : Below w.heap.size w w1 := ⟨hgrow1.os, hgrow1.tape, hgrow1.output, hgrow1.size, fun k hk => hgrow1.block k hk (by simp)⟩
  clear hown1 hgrow1
  generalize hgb : w.heap.size = gb at *
  have hgbH : Hid (w.heap.size = gb) := hgb
  clear hgb
  go_loopw [12] (fun iv wr => ∃ (j : Nat) (v : Nat → Value), iv = .int .i64 j ∧ j ≤ l.length ∧ NxW wr gb n (suc (l.take j)) v ∧ Below gb w wr)
    (fun iv _ => l.length - (intOf iv).toNat)
  case atStart => exact ⟨0, fun _ => .slice none 0 0, rfl, Nat.zero_le _, ⟨hat1, fun i _ => World.ownsRow_nil _ _ _ _, fun i j _ _ _ b hb => by simp [Value.ownBlock] at hb⟩, hB1⟩
  case round =>
    clear hat1 hB1
    obtain ⟨j, v, rfl, hjl, hN, hbl⟩ := hrel
    by_cases hj : j < l.length
    · have hok := hgH.out.ok _ (ed_mem hj)
      rcases hE.out wr hbl with hh0 | ⟨eb, eo, rfl, hAr⟩
      · omega
      have z0 := hAr.cf j hj
      have z1 := hAr.ct j hj
      have hji : (j : Int) < (l.length : Int) := by omega
      have hj2 : Hid (j ≤ 100000) := by have := hlH.out; show _ ≤ _; omega
      obtain ⟨F, hF⟩ : ∃ F : Nat, (ed l j).f = (F : Int) := ⟨(ed l j).f.toNat, by omega⟩
      obtain ⟨T, hT⟩ : ∃ T : Nat, (ed l j).t = (T : Int) := ⟨(ed l j).t.toNat, by omega⟩
      have hFn : Hid (F < n) := by show _ < _; omega
      have hstep : Hid (suc (l.take (j + 1)) = fun i => if i = F then suc (l.take j) F ++ [T] else suc (l.take j) i) := by
        show _ = _
        funext i
        rw [take_snoc hj, suc_snoc, hF, hT, Int.toNat_natCast]
        by_cases e : i = F
        · subst e; simp
        · have : ¬ ((F : Int) = (i : Int)) := by omega
          simp [e, this]
      rw [hF] at z0
      rw [hT] at z1
      have hsl : Hid ((suc (l.take j) F).length ≤ 400) := by have := suc_len (l.take j) F; have := hlH.out; simp at *; show _ ≤ _; omega
      have hgs : Hid (gb < wr.heap.size) := (hN.out.lt gb rfl).2
      have hFi : (F : Int) < (n : Int) := by omega
      have hF0 : ¬ (F : Int) < 0 := by omega
      have hFg : ¬ (n : Int) ≤ (F : Int) := by omega
      have hNA := hN.alloc (.cells #[.int .i64 (F : Int), .int .i64 (T : Int)] 52)
      have hBA : Below gb w (wr.alloc (.cells #[.int .i64 (F : Int), .int .i64 (T : Int)] 52)) := hbl.alloc (Nat.le_of_lt hgs.out) _
      have hn := heap_alloc_new wr (.cells #[.int .i64 (F : Int), .int .i64 (T : Int)] 52)
      have hne : Hid (∀ b, (v F).ownBlock = some b → b ≠ wr.heap.size) := fun b hb => by have := ((hN.inn F hFn.out).lt b hb).2; omega
      clear hAr hok hF hT hE hN hbl
      generalize suc (l.take j) = s at *
      go_wp2
      clear z0 z1
      have hsA : Hid (wr.heap.size < (wr.alloc (.cells #[.int .i64 (F : Int), .int .i64 (T : Int)] 52)).heap.size) := by show _ < _; simp
      generalize wr.alloc (.cells #[.int .i64 (F : Int), .int .i64 (T : Int)] 52) = wz at *
      generalize wr.heap.size = hc at *
      have k0 : wz.cell? ⟨hc, 0, none⟩ = some (.int .i64 (F : Int)) := (cell_of_row _ _ 0 _ _ _ hn).trans rfl
      have k1 : wz.cell? ⟨hc, 1, none⟩ = some (.int .i64 (T : Int)) := (cell_of_row _ _ 1 _ _ _ hn).trans rfl
      have kF : wz.cell? ⟨gb, F, none⟩ = some (v F) := by rw [hNA.out.cellAt F (by have := hFn.out; omega), vals_get hFn.out]
      obtain ⟨pF, cF, hvF⟩ := own_form (hNA.inn F hFn.out)
      rw [hvF] at kF
      clear hn
      obtain ⟨m, hm⟩ : ∃ m, (s F).length = m := ⟨_, rfl⟩
      have hmH : Hid ((s F).length = m) := hm
      rw [hm] at kF hsl
      have hNd : Hid (NxW wz.drew gb n s v) := ⟨hNA.out, hNA.inn, hNA.ne⟩
      have hBd : Hid (Below gb w wz.drew) := hBA.drew
      have hsd : Hid (gb + 1 ≤ wz.drew.heap.size) := by have h1 := hgs.out; have h2 : hc < wz.drew.heap.size := hsA.out; show _ ≤ _; omega
      have hcz : wz.drew.cell? ⟨hc, 0, none⟩ = some (.int .i64 (F : Int)) ∧ wz.drew.cell? ⟨hc, 1, none⟩ = some (.int .i64 (T : Int)) ∧ wz.drew.cell? ⟨gb, F, none⟩ = some (.slice pF m cF) := ⟨k0, k1, kF⟩
      have hrow := hNd.out.inn F hFn.out
      rw [hvF, hm] at hrow
      have hvH : Hid (v F = Value.slice pF (s F).length cF) := hvF
      have hgc : Hid (hc ≠ gb ∧ gb + 1 ≤ hc) := by have := hgs.out; exact ⟨by omega, by omega⟩
      have hrne : Hid (∀ b, Value.ownBlock (.slice pF m cF) = some b → b ≠ hc) := fun b hb => by
        have := hne.out b (by rw [hvH.out, hmH.out]; exact hb); exact this
      clear hvF hm hNA hBA kF k0 k1 hsA
      refine Tkc.region_anyC (C := fun w' => w'.cell? ⟨hc, 0, none⟩ = some (.int .i64 (F : Int)) ∧ w'.cell? ⟨hc, 1, none⟩ = some (.int .i64 (T : Int)) ∧ w'.cell? ⟨gb, F, none⟩ = some (.slice pF m cF)) (s := 12) (by kernel_rfl) ?_
      generalize wz.drew = wy at *
      refine Tkc.takeC (i := 0) (v := .slice (some ⟨gb, 0, none⟩) n n) rfl (by kernel_rfl) (by kernel_rfl) (by kernel_rfl) (fun _ _ _ h => h) (by decide) (by kernel_rfl) (by kernel_rfl) hcz ⟨by rfl, fun w hw => by obtain ⟨q0, q1, q2⟩ := hw; go_simp⟩ ?_
      go_frame
      refine Tkc.takeC (i := 1) (v := .pointer (some ⟨hc, 0, none⟩)) rfl (by kernel_rfl) (by kernel_rfl) (by kernel_rfl) (fun _ _ _ h => h) (by decide) (by kernel_rfl) (by kernel_rfl) hcz ⟨by rfl, fun w hw => by obtain ⟨q0, q1, q2⟩ := hw; go_simp⟩ ?_
      go_frame
      refine Tkc.takeC (i := 2) (v := .int .i64 (F : Int)) rfl (by kernel_rfl) (by kernel_rfl) (by kernel_rfl) (fun _ _ _ h => h) (by decide) (by kernel_rfl) (by kernel_rfl) hcz ⟨by rfl, fun w hw => by obtain ⟨q0, q1, q2⟩ := hw; go_simp⟩ ?_
      go_frame
      refine Tkc.takeC (i := 3) (v := .slice (some ⟨gb, 0, none⟩) n n) rfl (by kernel_rfl) (by kernel_rfl) (by kernel_rfl) (fun _ _ _ h => h) (by decide) (by kernel_rfl) (by kernel_rfl) hcz ⟨by rfl, fun w hw => by obtain ⟨q0, q1, q2⟩ := hw; go_simp⟩ ?_
      go_frame
      refine Tkc.takeC (i := 4) (v := .pointer (some ⟨hc, 0, none⟩)) rfl (by kernel_rfl) (by kernel_rfl) (by kernel_rfl) (fun _ _ _ h => h) (by decide) (by kernel_rfl) (by kernel_rfl) hcz ⟨by rfl, fun w hw => by obtain ⟨q0, q1, q2⟩ := hw; go_simp⟩ ?_
      go_frame
      refine Tkc.takeC (i := 5) (v := .int .i64 (F : Int)) rfl (by kernel_rfl) (by kernel_rfl) (by kernel_rfl) (fun _ _ _ h => h) (by decide) (by kernel_rfl) (by kernel_rfl) hcz ⟨by rfl, fun w hw => by obtain ⟨q0, q1, q2⟩ := hw; go_simp⟩ ?_
      go_frame
      refine Tkc.takeC (i := 6) (v := .pointer (some ⟨gb, F, none⟩)) rfl (by kernel_rfl) (by kernel_rfl) (by kernel_rfl) (fun _ _ _ h => h) (by decide) (by kernel_rfl) (by kernel_rfl) hcz ⟨by rfl, fun w hw => by obtain ⟨q0, q1, q2⟩ := hw; go_simp⟩ ?_
      go_frame
      refine Tkc.takeC (i := 7) (v := .slice pF m cF) rfl (by kernel_rfl) (by kernel_rfl) (by kernel_rfl) (fun _ _ _ h => h) (by decide) (by kernel_rfl) (by kernel_rfl) hcz ⟨by rfl, fun w hw => by obtain ⟨q0, q1, q2⟩ := hw; go_simp⟩ ?_
      go_frame
      refine Tkc.takeC (i := 8) (v := .pointer (some ⟨hc, 1, none⟩)) rfl (by kernel_rfl) (by kernel_rfl) (by kernel_rfl) (fun _ _ _ h => h) (by decide) (by kernel_rfl) (by kernel_rfl) hcz ⟨by rfl, fun w hw => by obtain ⟨q0, q1, q2⟩ := hw; go_simp⟩ ?_
      go_frame
      refine Tkc.takeC (i := 9) (v := .int .i64 (T : Int)) rfl (by kernel_rfl) (by kernel_rfl) (by kernel_rfl) (fun _ _ _ h => h) (by decide) (by kernel_rfl) (by kernel_rfl) hcz ⟨by rfl, fun w hw => by obtain ⟨q0, q1, q2⟩ := hw; go_simp⟩ ?_
      go_frame
      refine Tkc.onlyC (i := 10) rfl (by kernel_rfl) (fun _ => hcz) (by rfl) (fun K hK => ?_)
      go_simp
      refine hK _ _ ?_
      clear hK K
      have hcA : (wy.alloc (.cells #[.int .i64 (T : Int)] 3)).cell? ⟨hc, 0, none⟩ = some (.int .i64 (F : Int)) ∧ (wy.alloc (.cells #[.int .i64 (T : Int)] 3)).cell? ⟨hc, 1, none⟩ = some (.int .i64 (T : Int)) ∧ (wy.alloc (.cells #[.int .i64 (T : Int)] 3)).cell? ⟨gb, F, none⟩ = some (.slice pF m cF) := ⟨cell_alloc hcz.1 _, cell_alloc hcz.2.1 _, cell_alloc hcz.2.2 _⟩
      have hnw := cells_new wy [.int .i64 (T : Int)] 3
      refine Tkc.onlyC (i := 11) rfl (by kernel_rfl) (fun _ => hcA) (by rfl) (fun K hK => ?_)
      obtain ⟨i1, hi9, hz0, hz1, hz2⟩ := info_parts info_int
      refine step_app (base := gb + 1) (.tmp 23) (.tmp 26) rfl (hrow.alloc _) (by simp [Act.eval]) ⟨by simp [Act.eval], rfl⟩ hnw hsl.out (by have := hsd.out; simp; omega) ?_
      intro g6 cap6 w6 hown6 hgA hloc
      refine hK _ _ ?_
      clear hK K hi9 hz0 hz1 hz2
      have hout6 : w6.ownsRow gb 47 1 (.slice (some ⟨gb, 0, none⟩) n n) n (vals v n) := (hNd.out.out.alloc _).kept hgA (Or.inr fun e => by have := (hrow.lt gb e.symm).1; omega)
      have x6 : w6.cell? ⟨gb, F, none⟩ = some (.slice pF m cF) := by rw [hout6.cellAt F (by have := hFn.out; omega), vals_get hFn.out, hvH.out, hmH.out]
      have f6 := owns_frz hout6 F
      have c6 : w6.cell? ⟨hc, 0, none⟩ = some (.int .i64 (F : Int)) ∧ w6.cell? ⟨hc, 1, none⟩ = some (.int .i64 (T : Int)) ∧ w6.cell? ⟨gb, F, none⟩ = some (.slice pF m cF) := ⟨hgA.cell hcA.1 (fun e => hrne.out _ e.symm rfl), hgA.cell hcA.2.1 (fun e => hrne.out _ e.symm rfl), x6⟩
      go_frame
      refine Tkc.onlyC (i := 12) rfl (by kernel_rfl) (fun _ => c6) (by rfl) (fun K hK => ?_)
      go_simp
      refine hK _ _ ?_
      clear hK K
      refine Tkc.onlyC (i := 13) rfl (by kernel_rfl) (fun hz => by have hz' : true = false := hz; cases hz') (by rfl) (fun K hK => ?_)
      go_simp
      refine hK _ _ ?_
      clear hK K
      refine Tkc.doneC (by kernel_rfl) (fun hz => by have hz' : true = false := hz; cases hz') ?_
      clear hcz hcA c6 x6 f6 hnw
      go_wp2
      have hG := NxW.grow (w1 := w6) (v' := .slice (some ⟨g6, 0, none⟩) (m + 1) cap6) (t := T) (hNd.out.alloc (.cells #[.int .i64 (T : Int)] 3)) hFn.out (by rw [hvH.out, hmH.out]; exact hgA) (by rw [hmH.out]; simp only [ints, List.map_append, List.map_cons, List.map_nil]; exact hown6) (by rw [hvH.out, hmH.out]; exact hloc)
      refine ⟨⟨j + 1, _, ?_, hj, by rw [hstep.out]; exact hG, ?_⟩, ?_⟩
      · first | exact int_succ j | exact int_wsucc hj2.out
      · exact (below_app hBd.out hrow hgA (Nat.le_succ gb) hsd.out).setCell (Nat.le_refl gb) _
      · first | exact meas_1 hj | exact meas_w hj hj2.out
    · have hji : ¬ (j : Int) < (l.length : Int) := by omega
      have e : j = l.length := by omega
      subst e
      rw [List.take_length] at hN
      have hNH := hN.nx
      clear hN hE
      go_wp2
      go_ret
      rw [hgbH.out]
      exact ⟨rfl, hNH, hbl⟩
end Go.Proofs.YthfpdbogbmccjaaDoor
