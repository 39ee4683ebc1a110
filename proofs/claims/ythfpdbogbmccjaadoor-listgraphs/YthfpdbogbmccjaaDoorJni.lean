/- Package list: newWork's rows of those ahead as they grow, and the work that is made. -/
import Derived.Test.YthfpdbogbmccjaaDoorJnh
namespace Go.Proofs.YthfpdbogbmccjaaDoor
open Go.RowKit Gm Pm
set_option linter.unusedSectionVars false
set_option linter.unusedVariables false

/-- Rows of things, a row of them, those behind B: no two in one block. -/
structure NxB (w : World) (g0 B g n : Nat) (s : Nat → List Nat) (v : Nat → Value) : Prop where
  out : w.ownsRow g0 47 1 (.slice (some ⟨g, 0, none⟩) n n) n (vals v n)
  inn : ∀ i, i < n → w.ownsRow B 3 1 (v i) (s i).length (ints (s i))
  ne : ∀ i j, i < n → j < n → i ≠ j → ∀ b, (v i).ownBlock = some b → (v j).ownBlock ≠ some b
theorem NxB.alloc {w : World} {g0 B g n : Nat} {s : Nat → List Nat} {v : Nat → Value} (h : NxB w g0 B g n s v) (o : Obj) : NxB (w.alloc o) g0 B g n s v :=
  ⟨h.out.alloc o, fun i hi => (h.inn i hi).alloc o, h.ne⟩
theorem NxB.drew {w : World} {g0 B g n : Nat} {s : Nat → List Nat} {v : Nat → Value} (h : NxB w g0 B g n s v) : NxB w.drew g0 B g n s v := ⟨h.out, h.inn, h.ne⟩
/-- One of the rows has grown, and is stored. -/
theorem NxB.grow {w w1 : World} {g0 B g n f : Nat} {s : Nat → List Nat} {v : Nat → Value} {v' : Value} {t : Nat} (h : NxB w g0 B g n s v) (hB : g < B) (hf : f < n) (hg : w.grownBy w1 (v f).ownBlock) (ho : w1.ownsRow B 3 1 v' ((s f).length + 1) (ints (s f ++ [t]))) (hl : v'.ownBlock = (v f).ownBlock ∨ v'.ownBlock = some w.heap.size) :
    NxB (w1.setCell ⟨g, f, none⟩ v') g0 B g n (fun i => if i = f then s f ++ [t] else s i) (vp v f v') := by
  have hgne : ∀ i, i < n → ∀ b, (v i).ownBlock = some b → b ≠ g := fun i hi b hb => by have := ((h.inn i hi).lt b hb).1; omega
  have hout : w1.ownsRow g0 47 1 (.slice (some ⟨g, 0, none⟩) n n) n (vals v n) := h.out.kept hg (Or.inr fun e => by
    have e2 : (v f).ownBlock = some g := e.symm
    exact hgne f hf g e2 rfl)
  have hv'g : ∀ b, v'.ownBlock = some b → b ≠ g := fun b hb => by have := (ho.lt b hb).1; omega
  refine ⟨?_, fun i hi => ?_, fun i j hi hj hij b hb hb2 => ?_⟩
  · rw [← vals_set]; exact owns_store hout _
  · by_cases e : i = f
    · subst e
      have : (w1.setCell ⟨g, i, none⟩ v').ownsRow B 3 1 v' ((s i).length + 1) (ints (s i ++ [t])) := owns_set_other ho _ _ (fun b hb => hv'g b hb)
      simpa [vp] using this
    · have h1 : w1.ownsRow B 3 1 (v i) (s i).length (ints (s i)) := (h.inn i hi).kept hg (by
        cases hb : (v i).ownBlock with
        | none => exact Or.inl rfl
        | some b => exact Or.inr fun e2 => h.ne i f hi hf e b hb (e2.symm ▸ rfl))
      have : (w1.setCell ⟨g, f, none⟩ v').ownsRow B 3 1 (v i) (s i).length (ints (s i)) := owns_set_other h1 _ _ (fun b hb => hgne i hi b hb)
      simpa [vp, e] using this
  · have key : ∀ k, k < n → k ≠ f → ∀ b, (v k).ownBlock = some b → v'.ownBlock ≠ some b := fun k hk hkf b hb hb2 => by
      rcases hl with h2 | h2
      · rw [h2] at hb2; exact h.ne k f hk hf hkf b hb hb2
      · rw [h2] at hb2; cases hb2; have := ((h.inn k hk).lt _ hb).2; omega
    unfold vp at hb hb2
    by_cases e : i = f
    · subst e
      rw [if_pos rfl] at hb
      rw [if_neg (Ne.symm hij)] at hb2
      exact key j hj (Ne.symm hij) b hb2 hb
    · rw [if_neg e] at hb
      by_cases e2 : j = f
      · subst e2
        rw [if_pos rfl] at hb2
        exact key i hi e b hb hb2
      · rw [if_neg e2] at hb2
        exact h.ne i j hi hj hij b hb hb2
/-- What is made of one cell each is a row of one's own. -/
theorem owns_made {w : World} {g g0 n : Nat} {t : TypeId} {z : Value} (h : w.heap[g]? = some (.cells (madeCells #[z] (n * 1)) t (0, 0))) (hg : g0 ≤ g) (hn : n ≤ 100000) : w.ownsRow g0 t 1 (.slice (some ⟨g, 0, none⟩) n n) n (List.replicate n z) := by
  rw [Nat.mul_one] at h
  have hl : (madeCells #[z] n).size = n := by have := congrArg List.length (toList_madeCells_one z n); simpa using this
  refine ⟨by simp, Or.inr ⟨g, n, _, rfl, hg, h, Nat.le_refl _, by unfold maxLen; omega, by rw [hl, Nat.mul_one], ?_⟩⟩
  rw [toList_madeCells_one, Nat.mul_one]
  exact List.take_of_length_le (by simp)
theorem turn_made {w : World} {g n : Nat} (h : w.heap[g]? = some (wob n 0 3)) {j : Nat} (hj : j < n * 2) : w.cell? ⟨g, j, none⟩ = some (.int .i64 0) ∧ w.frozen? ⟨g, j, none⟩ = false := by
  refine ⟨(cell_of_row _ _ j _ _ _ h).trans ?_, by simp [World.frozen?, h, wob]⟩
  show (madeCells #[.int .i64 0, .int .i64 0] (n * 2))[j]? = _
  have : j % 2 = 0 ∨ j % 2 = 1 := by omega
  rcases this with e | e <;> simp [madeCells, hj, e]
/-- What newWork has made when its first region is done. -/
structure Mw (w0 w : World) (gp gA gE gF gT n m : Nat) (pd : Option Addr) (cd : Nat) : Prop where
  b : Below w0.heap.size w0 w
  p : w.heap[gp]? = some (.cells #[.slice pd n cd, .slice (some ⟨gA, 0, none⟩) n n, .slice (some ⟨gE, 0, none⟩) n n, .slice (some ⟨gF, 0, none⟩) m m, .slice (some ⟨gT, 0, none⟩) n n] 45 (0, 0))
  A : w.heap[gA]? = some (wob n m 0)
  E : w.heap[gE]? = some (wob n m 1)
  F : w.heap[gF]? = some (wob n m 2)
  T : w.heap[gT]? = some (wob n m 3)
  lt : gp < w.heap.size ∧ gA < w.heap.size ∧ gE < w.heap.size ∧ gF < w.heap.size ∧ gT < w.heap.size
  lo : w0.heap.size ≤ gp ∧ w0.heap.size ≤ gA ∧ w0.heap.size ≤ gE ∧ w0.heap.size ≤ gF ∧ w0.heap.size ≤ gT
  ap : gp ≠ gE ∧ gp ≠ gF ∧ gp ≠ gT ∧ gA ≠ gE ∧ gA ≠ gF ∧ gA ≠ gT ∧ gE ≠ gF ∧ gE ≠ gT ∧ gF ≠ gT ∧ gp ≠ gA
theorem Mw.of {w0 w : World} {gA gE gF gT n m : Nat} {pd : Option Addr} {cd : Nat} {f : Nat → Option Nat} (h : Nw w0 w n m f) (h0 : f 0 = some gA) (h1 : f 1 = some gE) (h2 : f 2 = some gF) (h3 : f 3 = some gT) :
    Mw w0 (w.alloc (.cells #[.slice pd n cd, .slice (some ⟨gA, 0, none⟩) n n, .slice (some ⟨gE, 0, none⟩) n n, .slice (some ⟨gF, 0, none⟩) m m, .slice (some ⟨gT, 0, none⟩) n n] 45)) w.heap.size gA gE gF gT n m pd cd := by
  obtain ⟨a1, a2, a3⟩ := h.at_ 0 gA h0
  obtain ⟨b1, b2, b3⟩ := h.at_ 1 gE h1
  obtain ⟨c1, c2, c3⟩ := h.at_ 2 gF h2
  obtain ⟨d1, d2, d3⟩ := h.at_ 3 gT h3
  have ne : ∀ {j k x y : Nat}, f j = some x → f k = some y → j ≠ k → x ≠ y := fun {j k x y} hx hy hjk e => hjk (h.ne j k x hx (by rw [e]; exact hy))
  refine ⟨h.b.alloc h.b.size _, heap_alloc_new w _, by rw [Below.heap_alloc _ _ _ a2]; exact a3, by rw [Below.heap_alloc _ _ _ b2]; exact b3, by rw [Below.heap_alloc _ _ _ c2]; exact c3, by rw [Below.heap_alloc _ _ _ d2]; exact d3, ?_, ⟨h.b.size, a1, b1, c1, d1⟩, ?_⟩
  · have e : (w.alloc (.cells #[.slice pd n cd, .slice (some ⟨gA, 0, none⟩) n n, .slice (some ⟨gE, 0, none⟩) n n, .slice (some ⟨gF, 0, none⟩) m m, .slice (some ⟨gT, 0, none⟩) n n] 45)).heap.size = w.heap.size + 1 := by simp
    rw [e]
    exact ⟨by omega, by omega, by omega, by omega, by omega⟩
  · exact ⟨by omega, by omega, by omega, ne h0 h1 (by decide), ne h0 h2 (by decide), ne h0 h3 (by decide), ne h1 h2 (by decide), ne h1 h3 (by decide), ne h2 h3 (by decide), by omega⟩
/-- The rows as they are made: empty. -/
theorem Mw.rows {w0 w : World} {gp gA gE gF gT n m : Nat} {pd : Option Addr} {cd : Nat} (h : Mw w0 w gp gA gE gF gT n m pd cd) (hn : n ≤ 60) : NxB w w0.heap.size w.heap.size gA n (fun _ => []) (fun _ => .slice none 0 0) := by
  refine ⟨?_, fun i _ => World.ownsRow_nil _ _ _ _, fun i j _ _ _ b hb => by simp [Value.ownBlock] at hb⟩
  rw [vals_zero]
  exact owns_made h.A h.lo.2.1 (by omega)
/-- Blocks below B, one aside, are as they were. -/
def Oth (B g : Nat) (w w' : World) : Prop := ∀ k, k < B → k ≠ g → w'.heap[k]? = w.heap[k]?
/-- The work that is made, once its rows of those ahead are filled and no job is begun. -/
theorem Mw.wk {w0 w w1 w2 : World} {gp gA gE gF gT n m : Nat} {pd : Option Addr} {cd : Nat} {l : List Ed} {d : List Int} {v : Nat → Value} (h : Mw w0 w gp gA gE gF gT n m pd cd) (hn : n ≤ 60) (hm : m ≤ 20) (hx : NxB w1 w0.heap.size w.heap.size gA n (suc (trn l)) v) (ho : Oth w.heap.size gA w w1)
    (hE : w2.ownsRow w0.heap.size 2 1 (.slice (some ⟨gE, 0, none⟩) n n) n (numf (fun _ => nvr) n)) (ho2 : ∀ k, k < w1.heap.size → k ≠ gE → w2.heap[k]? = w1.heap[k]?) (hs1 : w.heap.size ≤ w1.heap.size) (hs2 : w1.heap.size ≤ w2.heap.size) (hd : Nums w0 pd d) (hdn : d.length = n) :
    Wk w2 w0.heap.size gp gA gE gF gT w.heap.size pd cd n m l d wst0 := by
  obtain ⟨l1, l2, l3, l4, l5⟩ := h.lt
  obtain ⟨o1, o2, o3, o4, o5⟩ := h.lo
  obtain ⟨a1, a2, a3, a4, a5, a6, a7, a8, a9, a10⟩ := h.ap
  have bk : ∀ k, k < w.heap.size → k ≠ gA → k ≠ gE → w2.heap[k]? = w.heap[k]? := fun k h1 h2 h3 => (ho2 k (by omega) h3).trans (ho k h1 h2)
  have hp2 : w2.heap[gp]? = some (.cells #[.slice pd n cd, .slice (some ⟨gA, 0, none⟩) n n, .slice (some ⟨gE, 0, none⟩) n n, .slice (some ⟨gF, 0, none⟩) m m, .slice (some ⟨gT, 0, none⟩) n n] 45 (0, 0)) := (bk gp l1 a10 a1).trans h.p
  have hT2 : w2.heap[gT]? = some (wob n 0 3) := (bk gT l5 (Ne.symm a6) (Ne.symm a8)).trans h.T
  have kp : ∀ {g : Nat} {t : TypeId} {B : Nat} {x : Value} {k : Nat} {xs : List Value}, w1.ownsRow B t 1 x k xs → (∀ b, x.ownBlock = some b → b ≠ gE) → w2.ownsRow B t 1 x k xs := fun {g t B x k xs} hx hne => by
    refine ⟨hx.1, hx.2.imp id fun ⟨g, cap, cur, e1, e2, e3, e4⟩ => ⟨g, cap, cur, e1, e2, ?_, e4⟩⟩
    rw [ho2 g (Array.getElem?_eq_some_iff.1 e3).1 (hne g (by rw [e1]; rfl))]
    exact e3
  refine ⟨(cell_of_row _ _ 0 _ _ _ hp2).trans rfl, (cell_of_row _ _ 1 _ _ _ hp2).trans rfl, (cell_of_row _ _ 2 _ _ _ hp2).trans rfl, (cell_of_row _ _ 3 _ _ _ hp2).trans rfl, (cell_of_row _ _ 4 _ _ _ hp2).trans rfl, ⟨by omega, by omega, by omega, by omega, by omega⟩, ⟨o1, o2, o3, o4, o5, l3, l4, l5⟩, ⟨a1, a2, a3, a4, a5, a6, a7, a8, a9⟩, ⟨by omega, fun i hi => ?_⟩, hdn, fun i hi => ?_, hE, ?_, fun i hi => ?_⟩
  · obtain ⟨p, c, hv⟩ := own_form (hx.inn i hi)
    refine ⟨p, c, ?_, ?_⟩
    · have h1 : w1.cell? ⟨gA, i, none⟩ = some (v i) := by rw [hx.out.cellAt i (by omega), vals_get hi]
      rw [← hv, ← h1]
      exact World.cell?_of_block (w := w1) (ho2 gA (by omega) a4)
    · rw [← hv]
      exact kp (g := 0) (hx.inn i hi) (fun b hb => by have := ((hx.inn i hi).lt b hb).1; omega)
  · rcases hd with h0 | ⟨b, o, e, hA⟩
    · omega
    · refine ⟨b, o, e, hA.lt, ?_⟩
      have hlt := hA.lt
      rw [← hA.c i (by omega)]
      refine World.cell?_of_block (w := w0) ?_
      show w2.heap[b]? = w0.heap[b]?
      have := h.b.size
      rw [bk b (by omega) (by omega) (by omega)]
      exact h.b.block b hlt
  · show w2.ownsRow w0.heap.size 2 1 (.slice (some ⟨gF, 0, none⟩) m m) m (numf (fun _ => 0) m)
    rw [numf_zero]
    exact owns_made ((bk gF l4 (Ne.symm a5) (Ne.symm a7)).trans h.F) o4 (by omega)
  · obtain ⟨t1, t2⟩ := turn_made hT2 (show i * 2 < n * 2 by omega)
    obtain ⟨t3, t4⟩ := turn_made hT2 (show i * 2 + 1 < n * 2 by omega)
    exact ⟨t1, t3, t2, t4⟩
end Go.Proofs.YthfpdbogbmccjaaDoor
