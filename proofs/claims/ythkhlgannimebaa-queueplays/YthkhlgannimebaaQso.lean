/- Sort, walked: items that are handed in, put one by one and taken one by one. -/
import Derived.Test.YthkhlgannimebaaQur
namespace Go.Proofs.Ythkhlgannimebaa
open Go.RowKit Go.Maps Go.Sort Qum
set_option linter.unusedSectionVars false

/-- Items lie in the block b from o on; a thing's turn is its place. -/
structure ItsAt (w : World) (b o : Nat) (l : List Th) : Prop where
  lt : b < w.heap.size
  cp : ∀ j, j < l.length → w.cell? ⟨b, o + j * 2, none⟩ = some (.int .i64 (th l j).p)
  ci : ∀ j, j < l.length → w.cell? ⟨b, o + j * 2 + 1, none⟩ = some (.int .i64 (th l j).i)
  wi : ∀ j, j < l.length → (Lit.int .i64 (th l j).i).wf = true

/-- A slice of items: none of them, or they lie somewhere. -/
def Its (w : World) (q : Option Addr) (l : List Th) : Prop := (∀ j, j < l.length → (th l j).t = j) ∧ (l.length = 0 ∨ ∃ b o, q = some ⟨b, o, none⟩ ∧ ItsAt w b o l)

theorem ItsAt.below {w w' : World} {b o : Nat} {l : List Th} {B : Nat} (h : ItsAt w b o l) (hb : Below B w w') (hB : b < B) : ItsAt w' b o l :=
  ⟨Nat.lt_of_lt_of_le h.lt hb.size, fun j hj => (hb.cell (p := ⟨b, o + j * 2, none⟩) hB).trans (h.cp j hj), fun j hj => (hb.cell (p := ⟨b, o + j * 2 + 1, none⟩) hB).trans (h.ci j hj), h.wi⟩

theorem wrap_succ {i : Nat} (h : i ≤ 100000) : wrap64 ((i : Int) + 1) = ((i + 1 : Nat) : Int) := by unfold wrap64; omega
theorem meas_w {n i : Nat} (hi : i < n) (h : i ≤ 100000) : n - (intOf (.int .i64 (wrap64 ((i : Int) + 1)))).toNat < n - (intOf (.int .i64 (i : Int))).toNat := by
  rw [wrap_succ h]
  simp [intOf]
  omega
theorem meas_1 {n i : Nat} (hi : i < n) : n - (intOf (.int .i64 ((i : Int) + 1))).toNat < n - (intOf (.int .i64 (i : Int))).toNat := by
  simp [intOf]
  omega
theorem int_succ (i : Nat) : Value.int .i64 ((i : Int) + 1) = .int .i64 ((i + 1 : Nat) : Int) := by simp
theorem int_wsucc {i : Nat} (h : i ≤ 100000) : Value.int .i64 (wrap64 ((i : Int) + 1)) = .int .i64 ((i + 1 : Nat) : Int) := by rw [wrap_succ h]

set_option maxRecDepth 100000 in
theorem sort_large (q : Option Addr) (n cap : Nat) (w : World) (hn : 200 < n) :
    Calls Try.prog 9 #[.slice q n cap] w fun e w' => e = .returned (.tuple #[.slice none 0 0, .int .i64 2]) ∧ Below w.heap.size w w' := by
  have hn' : (200 : Int) < (n : Int) := by omega
  go_enter Try.func9, Try.ntmps9
  go_wp2
  go_ret2
  exact ⟨rfl, Below.refl _ _⟩

def uniq (l : List Th) : Prop := l.Pairwise fun x y => x.i ≠ y.i

/-- A queue that has had the first j of l. -/
theorem put_step {l : List Th} {j : Nat} (ht : ∀ j, j < l.length → (th l j).t = j) (hj : j < l.length) (hl : l.length ≤ 200) (hno : hasId (l.take j) (th l j).i = false) : putE ⟨j, l.take j⟩ (th l j).i = 0 ∧ putS ⟨j, l.take j⟩ (th l j).p (th l j).i = ⟨((j + 1 : Nat) : Int), l.take (j + 1)⟩ := by
  have e : putE ⟨j, l.take j⟩ (th l j).i = 0 := by
    unfold putE
    simp [hno]
    omega
  refine ⟨e, ?_⟩
  unfold putS
  rw [if_pos e, take_snoc hj]
  have := ht j hj
  simp only [Qu.mk.injEq]
  refine ⟨by simp, ?_⟩
  congr 2
  generalize th l j = x at *
  obtain ⟨a, b, c⟩ := x
  simp at this
  simp [this]
theorem ok_take {l : List Th} {j : Nat} (ht : ∀ j, j < l.length → (th l j).t = j) (hj : j ≤ l.length) (hl : l.length ≤ 200) (hu : uniq (l.take j)) : Ok j ⟨j, l.take j⟩ := by
  have get : ∀ k (hk : k < (l.take j).length), (l.take j)[k].t = k := fun k hk => by
    have h1 : k < l.length := by simp at hk; omega
    have := ht k h1
    rw [th_get h1] at this
    simpa using this
  refine ⟨hu, ?_, ?_, by simp; omega, by simp, by simp⟩
  · rw [List.pairwise_iff_getElem]
    intro a b ha hb hab
    rw [get a ha, get b hb]
    omega
  · intro x hx
    obtain ⟨k, hk, rfl⟩ := List.getElem_of_mem hx
    rw [get k hk]
    simp at hk ⊢
    omega
theorem uniq_snoc {l : List Th} {j : Nat} (hj : j < l.length) (hu : uniq (l.take j)) (hno : hasId (l.take j) (th l j).i = false) : uniq (l.take (j + 1)) := by
  unfold uniq
  rw [take_snoc hj, List.pairwise_append]
  exact ⟨hu, by simp, fun y hy z hz => by obtain rfl := List.mem_singleton.1 hz; exact hasId_false hno y hy⟩
theorem uniq_no {l : List Th} {j : Nat} (hu : uniq l) (hj : j < l.length) : hasId (l.take j) (th l j).i = false := by
  cases h : hasId (l.take j) (th l j).i
  · rfl
  · obtain ⟨y, hy, e⟩ := hasId_true h
    obtain ⟨k, hk, rfl⟩ := List.getElem_of_mem hy
    have hk' : k < j := by simp at hk; omega
    unfold uniq at hu
    rw [List.pairwise_iff_getElem] at hu
    have := hu k j (by omega) hj hk'
    rw [th_get hj] at e
    simp at e
    exact absurd e this

/-- What a Take leaves: the first one of the row, if there is one. -/
def TakR (B qb bm k : Nat) (S : Qu) (w w' : World) (x : Th) : Prop :=
  ∃ S' : Qu, (0 < S.L.length → srt S.L = x :: srt S'.L ∧ S' = drpS S x.i) ∧ (S.L.length = 0 → S' = S) ∧ Que B w' qb bm S' ∧ Ok k S' ∧ Fq B (some bm) w w'
theorem take_any {B : Nat} {w : World} {qb bm k : Nat} {S : Qu} (h : Que B w qb bm S) (hk : Ok k S) :
    Calls Try.prog 20 #[.pointer (some ⟨qb, 0, none⟩)] w fun e w' => ∃ x : Th, e = .returned (.tuple #[.agg #[.int .i64 x.p, .int .i64 x.i], .bool (decide (0 < S.L.length))]) ∧ TakR B qb bm k S w w' x := by
  by_cases h0 : S.L = []
  · refine (take_none h h0).mono fun e w' ⟨he, hb⟩ => ⟨⟨0, 0, 0⟩, ?_, S, ?_, fun _ => rfl, h.below hb, hk, Fq.below_of hb h.base⟩
    · rw [he, h0]; rfl
    · rw [h0]; intro hh; simp at hh
  · refine (take_some h hk h0).mono fun e w' ⟨x, he, h1, h2, h3⟩ => ⟨x, ?_, _, fun _ => ⟨h1, rfl⟩, ?_, h2, hk.drp _, h3⟩
    · rw [he, decide_eq_true (List.length_pos_iff.2 h0)]
    · intro hh; exact absurd (List.length_eq_zero_iff.1 hh) h0
theorem info_item : (Try.prog.info? 30).map (fun i => (i.zero, i.size, i.bytes)) = some (some (.agg #[.int .i64 0, .int .i64 0]), 2, 16) := by kernel_rfl

/-- Where the taking stands: these are done, x is in hand, S is left. -/
structure TkI (bm qb : Nat) (w : World) (l : List Th) (wr : World) (v : Value) (bx : Nat) (done : List Th) (x : Th) (S : Qu) : Prop where
  row : wr.ownsRow bm 30 2 v done.length (flatI done)
  nxt : done.length < l.length → srt l = done ++ x :: srt S.L
  fin : ¬ done.length < l.length → srt l = done
  que : Que bm wr qb bm S
  ok : Ok l.length S
  box : wr.heap[bx]? = some (.cells #[.int .i64 x.p, .int .i64 x.i] 30 (0, 0))
  ne : v.ownBlock ≠ some bx
  bl : Below bm w wr
  bb : bm < bx

theorem row_untagd {w : World} {B : Nat} {v : Value} {n : Nat} {xs : List Value} (h : w.ownsRow B 30 2 v n xs) {k : Nat} (hk : v.ownBlock = some k) : tagd w k = false := by
  rcases h.2 with ⟨rfl, _⟩ | ⟨g, cap, cur, rfl, _, hg, _⟩
  · simp [Value.ownBlock] at hk
  · simp [Value.ownBlock] at hk
    subst hk
    simp [tagd, hg]
theorem row_ne {w : World} {B qb bm : Nat} {S : Qu} {v : Value} {n : Nat} {xs : List Value} (h : w.ownsRow B 30 2 v n xs) (hq : Que B w qb bm S) : v.ownBlock ≠ some bm := by
  intro e
  rcases h.2 with ⟨rfl, _⟩ | ⟨g, cap, cur, rfl, _, hg, _⟩
  · simp [Value.ownBlock] at e
  · simp [Value.ownBlock] at e
    obtain ⟨_, _, _, _, _, _, ⟨es, clock, hb, _⟩, _⟩ := hq
    rw [e, hb] at hg
    simp at hg
theorem row_fq {w w' : World} {B B' : Nat} {bm : Option Nat} {v : Value} {n : Nat} {xs : List Value} (h : w.ownsRow B 30 2 v n xs) (hf : Fq B' bm w w') (hne : v.ownBlock = none ∨ v.ownBlock ≠ bm) : w'.ownsRow B 30 2 v n xs := by
  refine ⟨h.1, ?_⟩
  rcases h.2 with h0 | ⟨g, cap, cur, rfl, hb, hg, r⟩
  · exact Or.inl h0
  · refine Or.inr ⟨g, cap, cur, rfl, hb, ?_, r⟩
    rw [hf.oth g (Array.getElem?_eq_some_iff.1 hg).1 (by rcases hne with h | h; (simp [Value.ownBlock] at h); simpa [Value.ownBlock] using h) (by simp [tagd, hg])]
    exact hg
section
variable {bm qb bx : Nat} {w wr w5 w7 : World} {l done : List Th} {v v' : Value} {x x' : Th} {S : Qu} {o o2 : Obj}
theorem TkI.que6 (h : TkI bm qb w l wr v bx done x S) (hg : (wr.alloc o).grownBy w5 v.ownBlock) : Que bm (w5.alloc o2) qb bm S := by
  have h5 : Que bm w5 qb bm S := by
    have ha : Que bm (wr.alloc o) qb bm S := h.que.below ((Below.refl wr.heap.size wr).alloc (Nat.le_refl _) o)
    have hra : (wr.alloc o).ownsRow bm 30 2 v done.length (flatI done) := h.row.alloc o
    refine ha.own (fun k hk ht => hg.block k hk (fun e => ?_)) (hg.block bm ha.ltm (fun e => row_ne hra ha e.symm))
    rw [row_untagd hra e.symm] at ht
    cases ht
  exact h5.below ((Below.refl w5.heap.size w5).alloc (Nat.le_refl _) o2)
theorem TkI.step (h : TkI bm qb w l wr v bx done x S) (hlt : done.length < l.length) (hg : (wr.alloc o).grownBy w5 v.ownBlock) (hr : w5.ownsRow bm 30 2 v' (done.length + 1) (flatI done ++ [.int .i64 x.p, .int .i64 x.i]))
    (hT : TakR bm qb bm l.length S (w5.alloc (.cells #[.int .i64 x.p, .int .i64 x.i] 30)) w7 x') : ∃ S', TkI bm qb w l ((w7.setCell ⟨w5.heap.size, 0, none⟩ (.int .i64 x'.p)).setCell ⟨w5.heap.size, 1, none⟩ (.int .i64 x'.i)) v' w5.heap.size (done ++ [x]) x' S' := by
  obtain ⟨S', t1, t2, hQ7, hO7, hF⟩ := hT
  have hB5 : bm ≤ w5.heap.size := by
    have h1 := hg.size
    have h2 := h.que.base
    simp at h1
    omega
  have hbm5 : bm < w5.heap.size := by
    have h1 := hg.size
    have h2 := h.que.ltm
    simp at h1
    omega
  have hbx5 := heap_alloc_new w5 (.cells #[.int .i64 x.p, .int .i64 x.i] 30)
  have hbx7 : w7.heap[w5.heap.size]? = some (.cells #[.int .i64 x.p, .int .i64 x.i] 30 (0, 0)) := by
    rw [hF.oth w5.heap.size (by simp) (fun e => by cases e; omega) (box_facts hbx5).1.1]; exact hbx5
  have hr6 : (w5.alloc (.cells #[.int .i64 x.p, .int .i64 x.i] 30)).ownsRow bm 30 2 v' (done.length + 1) (flatI done ++ [.int .i64 x.p, .int .i64 x.i]) := hr.alloc _
  have hq6 := h.que6 (o2 := .cells #[.int .i64 x.p, .int .i64 x.i] 30) hg
  have hr7 := row_fq hr6 hF (Or.inr (row_ne hr6 hq6))
  have hvne : v'.ownBlock ≠ some w5.heap.size := fun e => by have := (hr.lt _ e).2; omega
  have hr8 : ((w7.setCell ⟨w5.heap.size, 0, none⟩ (.int .i64 x'.p)).setCell ⟨w5.heap.size, 1, none⟩ (.int .i64 x'.i)).ownsRow bm 30 2 v' (done.length + 1) (flatI done ++ [.int .i64 x.p, .int .i64 x.i]) :=
    (hr7.kept (w' := w7.setCell ⟨w5.heap.size, 0, none⟩ (.int .i64 x'.p)) (row := some w5.heap.size) ⟨rfl, rfl, rfl, by simp, fun k _ hk => heap_setCell_other _ ⟨_, _, _⟩ k _ (fun e => hk (by simp [e]))⟩ (Or.inr hvne)).kept (row := some w5.heap.size) ⟨rfl, rfl, rfl, by simp, fun k _ hk => heap_setCell_other _ ⟨_, _, _⟩ k _ (fun e => hk (by simp [e]))⟩ (Or.inr hvne)
  have hlen := congrArg List.length (h.nxt hlt)
  simp only [List.length_append, List.length_cons, srt_len] at hlen
  have hbf := box_facts hbx7
  refine ⟨S', ?_, ?_, ?_, (hQ7.box _ _ hbf.1.1 (by show w5.heap.size ≠ bm; omega)).box _ _ (hbf.1.2 _) (by show w5.heap.size ≠ bm; omega), hO7, ?_, hvne, ?_, hbm5⟩
  · rw [flatI_snoc, show (done ++ [x]).length = done.length + 1 by simp]; exact hr8
  · intro hl2
    simp at hl2
    rw [h.nxt hlt, (t1 (by omega)).1]
    simp
  · intro hl2
    simp at hl2
    rw [h.nxt hlt]
    have : S.L = [] := List.length_eq_zero_iff.1 (by omega)
    rw [this]
    simp [srt]
  · have e1 := heap_setCell_same w7 w5.heap.size 0 _ _ (.int .i64 x'.p) hbx7
    have e2 := heap_setCell_same _ w5.heap.size 1 _ _ (.int .i64 x'.i) e1
    rw [e2]
    rfl
  · have b1 : Below bm w w5 := by
      have : Below bm w (wr.alloc o) := h.bl.alloc h.que.base o
      exact this.grown hg (by simp; have := h.que.base; omega) (fun j hj => by have := (h.row.lt j hj).1; omega)
    have b2 := (b1.alloc hB5 (.cells #[.int .i64 x.p, .int .i64 x.i] 30)).trans hF.below
    have b3 : Below bm w7 (w7.setCell ⟨w5.heap.size, 0, none⟩ (.int .i64 x'.p)) := ⟨rfl, rfl, rfl, by simp, fun k hk => Below.heap_setCell _ _ _ _ (by show k ≠ w5.heap.size; omega)⟩
    have b4 : Below bm (w7.setCell ⟨w5.heap.size, 0, none⟩ (.int .i64 x'.p)) ((w7.setCell ⟨w5.heap.size, 0, none⟩ (.int .i64 x'.p)).setCell ⟨w5.heap.size, 1, none⟩ (.int .i64 x'.i)) := ⟨rfl, rfl, rfl, by simp, fun k hk => Below.heap_setCell _ _ _ _ (by show k ≠ w5.heap.size; omega)⟩
    exact (b2.trans b3).trans b4
theorem TkI.box5 (h : TkI bm qb w l wr v bx done x S) (hg : (wr.alloc o).grownBy w5 v.ownBlock) : w5.cell? ⟨bx, 0, none⟩ = some (.int .i64 x.p) ∧ w5.cell? ⟨bx, 1, none⟩ = some (.int .i64 x.i) := by
  have hlt : bx < wr.heap.size := (Array.getElem?_eq_some_iff.1 h.box).1
  have e : w5.heap[bx]? = some (.cells #[.int .i64 x.p, .int .i64 x.i] 30 (0, 0)) := by
    rw [hg.block bx (by simp; omega) (fun e => h.ne e.symm), Below.heap_alloc _ _ _ hlt]; exact h.box
  exact ⟨(box_facts e).2.1, (box_facts e).2.2.1⟩
theorem TkI.lens (h : TkI bm qb w l wr v bx done x S) (hlt : done.length < l.length) : done.length + 1 + S.L.length = l.length := by
  have hlen := congrArg List.length (h.nxt hlt)
  simp only [List.length_append, List.length_cons, srt_len] at hlen
  omega
theorem tak_box {y : Th} {k : Nat} {p i : Value} (hT : TakR bm qb bm k S (w5.alloc (.cells #[p, i] 30)) w7 y) (hb : bm < w5.heap.size) : w7.cell? ⟨w5.heap.size, 0, none⟩ = some p ∧ w7.cell? ⟨w5.heap.size, 1, none⟩ = some i ∧ w7.frozen? ⟨w5.heap.size, 0, none⟩ = false ∧ w7.frozen? ⟨w5.heap.size, 1, none⟩ = false := by
  obtain ⟨S', t1, t2, hQ7, hO7, hF⟩ := hT
  have hbx5 := heap_alloc_new w5 (.cells #[p, i] 30)
  have hbx7 : w7.heap[w5.heap.size]? = some (.cells #[p, i] 30 (0, 0)) := by
    rw [hF.oth w5.heap.size (by simp) (fun e => by cases e; omega) (box_facts hbx5).1.1]; exact hbx5
  exact (box_facts hbx7).2
theorem TkI.bm5 (h : TkI bm qb w l wr v bx done x S) (hg : (wr.alloc o).grownBy w5 v.ownBlock) : bm < w5.heap.size := by
  have h1 := hg.size
  have h2 := h.que.ltm
  simp at h1
  omega
end
def slen : Value → Nat
  | .slice _ n _ => n
  | _ => 0
theorem row_form {w : World} {B : Nat} {e : TypeId} {size n : Nat} {v : Value} {xs : List Value} (h : w.ownsRow B e size v n xs) : ∃ p cap, v = .slice p n cap := by
  rcases h.2 with ⟨rfl, h0⟩ | ⟨g, cap, cur, rfl, _⟩
  · exact ⟨none, 0, by rw [h0]⟩
  · exact ⟨_, cap, rfl⟩

set_option maxHeartbeats 1000000 in
set_option maxRecDepth 100000 in
theorem sort_uniq {w : World} {q : Option Addr} {cap : Nat} {l : List Th} (h : Its w q l) (hl : l.length ≤ 200) (hu : uniq l) :
    Calls Try.prog 9 #[.slice q l.length cap] w fun e w' => ∃ (p : Option Addr) (cap' : Nat), e = .returned (.tuple #[.slice p l.length cap', .int .i64 0]) ∧ w'.ownsRow w.heap.size 30 2 (.slice p l.length cap') l.length (flatI (srt l)) ∧ Below w.heap.size w w' := by
  have hl' : ¬ (200 : Int) < (l.length : Int) := by omega
  obtain ⟨ht, hI⟩ := h
  have ht' : Hid (∀ j, j < l.length → (th l j).t = j) := ht
  have hu' : Hid (uniq l) := hu
  clear ht hu
  go_enter Try.func9, Try.ntmps9
  go_wp2_with (first
    | (go_at_call 15; refine (new_any _).mono ?_; rintro e w2 ⟨rfl, hQ2, hb2⟩)
    | go_in)
  generalize hqb : w.heap.size + 1 = qb at *
  generalize hbm : w.heap.size = bm at *
  have hsz : Hid (w.heap.size = bm) := hbm
  clear hbm hqb
  go_loopw [17] (fun iv wr => ∃ j : Nat, iv = .int .i64 j ∧ j ≤ l.length ∧ Que bm wr qb bm ⟨j, l.take j⟩ ∧ Below bm w wr)
    (fun iv _ => l.length - (intOf iv).toNat)
  case atStart => exact ⟨0, rfl, Nat.zero_le _, by simpa using hQ2, hb2⟩
  case round =>
    clear hQ2 hb2
    obtain ⟨j, rfl, hjl, hQ, hbl⟩ := hrel
    by_cases hj : j < l.length
    · rcases hI with h0 | ⟨b, o, rfl, hA⟩
      · omega
      have hbB : b < bm := by have := hA.lt; have := hsz.out; omega
      have hAr := hA.below hbl hbB
      have z0 := hAr.cp j hj
      have z1 := hAr.ci j hj
      have wi := hAr.wi j hj
      have hji : (j : Int) < (l.length : Int) := by omega
      have hj2 : Hid (j ≤ 100000) := by show _ ≤ _; omega
      have hno := uniq_no hu'.out hj
      have hut : uniq (l.take j) := List.Pairwise.sublist (List.take_sublist j l) hu'.out
      have hput := put_any (p := (th l j).p) (hQ.below ((Below.refl wr.heap.size wr).alloc (Nat.le_refl _) (.cells #[.int .i64 (th l j).p, .int .i64 (th l j).i] 30))) (ok_take ht'.out hjl hl hut) (by omega) wi
      rw [(put_step ht'.out hj hl hno).1, (put_step ht'.out hj hl hno).2] at hput
      have hbq : Hid (Below bm w (wr.alloc (.cells #[.int .i64 (th l j).p, .int .i64 (th l j).i] 30))) := hbl.alloc (by have := hQ.base; omega) _
      generalize th l j = x at *
      clear hA hAr hQ hbl hno hut
      go_wp2_with (first
        | (go_at_call 16; refine hput.mono ?_; rintro e w3 ⟨rfl, hQ3, hF3⟩; clear hput)
        | go_in)
      refine ⟨⟨j + 1, ?_, hj, hQ3, hbq.out.trans hF3.below⟩, ?_⟩
      · first | exact int_succ j | exact int_wsucc hj2.out
      · first | exact meas_1 hj | exact meas_w hj hj2.out
    · have hji : ¬ (j : Int) < (l.length : Int) := by omega
      have hjl' : j = l.length := by omega
      subst hjl'
      rw [List.take_length] at hQ
      have hO : Ok l.length ⟨l.length, l⟩ := by have := ok_take (j := l.length) ht'.out (Nat.le_refl _) hl (by rw [List.take_length]; exact hu'.out); rwa [List.take_length] at this
      have hB := hQ.base
      go_wp2_with (first
        | (at_make; obtain ⟨i0, hi, hz0, hz1, hz2⟩ := info_parts info_item; refine wpList_make_own _ rfl _ _ 22 rfl bm 30 i0 (.agg #[.int .i64 0, .int .i64 0]) 2 Try.underlying22 hi hz0 hz1 _ _ _ l.length rfl rfl rfl (by rw [hz2]; omega) (by unfold maxLen; omega) hB ?_; intro w3 hown3 hgrow3; clear hi hz0 hz1 hz2; have hQ3 := hQ.own (fun k hk _ => hgrow3.block k hk (by simp)) (hgrow3.block bm hQ.ltm (by simp)); have htake := take_any hQ3 hO)
        | (go_at_call 20; refine htake.mono ?_; rintro e w4 ⟨x, rfl, hT⟩; clear htake)
        | go_in)
      have hI4 : ∃ S', TkI bm qb w l (w4.alloc (.cells #[.int .i64 x.p, .int .i64 x.i] 30)) (.slice (some ⟨wr.heap.size, 0, none⟩) 0 l.length) w4.heap.size [] x S' := by
        obtain ⟨S', t1, t2, hQ4, hO4, hF4⟩ := hT
        have hr4 := row_fq hown3 hF4 (Or.inr (row_ne hown3 hQ3))
        have hlt4 := (hr4.lt wr.heap.size rfl).2
        have hb4 := hQ4.base
        have hbm4 := hQ4.ltm
        refine ⟨S', hr4.alloc _, fun hp => by simpa using (t1 hp).1, fun hp => ?_, hQ4.below ((Below.refl _ _).alloc (Nat.le_refl _) _), hO4, heap_alloc_new w4 _, by simp [Value.ownBlock]; omega, ?_, hbm4⟩
        · have : l = [] := by
            cases l with
            | nil => rfl
            | cons a r => simp at hp
          rw [this]
          simp [srt]
        · have b3 : Below bm w w3 := hbl.grown hgrow3 (by omega) (fun j hj => by cases hj)
          exact (b3.trans hF4.below).alloc (by omega) _
      have hI4' : Hid _ := hI4
      clear hI4 hT hQ3 hown3 hgrow3 hQ hbl hO hB hI
      go_loopw [8, 9, 10] (fun sv xv tv wq => ∃ (done : List Th) (x : Th) (S : Qu) (bx : Nat), xv = .pointer (some ⟨bx, 0, none⟩) ∧ tv = .bool (decide (done.length < l.length)) ∧ TkI bm qb w l wq sv bx done x S)
        (fun sv _ _ _ => l.length - slen sv)
      case atStart =>
        obtain ⟨S', h4⟩ := hI4'.out
        exact ⟨[], x, S', _, rfl, by simp, h4⟩
      case round =>
        clear hI4'
        obtain ⟨done, y, S, bx, rfl, rfl, hT⟩ := hrel
        by_cases hlt : done.length < l.length
        · obtain ⟨_, y0, y1, _, _⟩ := box_facts hT.box
          have hrow := hT.row
          have hdl : done.length ≤ 200 := by omega
          have hbmw := hT.que.base
          have hT' : Hid _ := hT
          have hlt' : Hid (done.length < l.length) := hlt
          clear hT
          go_wp2_with (first
            | (at_builtin; (obtain ⟨i0, hi, hz0, hz1, hz2⟩ := info_parts info_item; refine wpList_append_own _ rfl _ _ 22 rfl bm 30 i0 (.agg #[.int .i64 0, .int .i64 0]) 2 16 Try.underlying22 hi hz0 hz1 hz2 rfl (by decide) _ _ _ rfl (hrow.alloc _) ⟨wr.heap.size, 0, none⟩ 1 1 [.int .i64 y.p, .int .i64 y.i] rfl rfl (cells_new _ _ _) (fun v hv => by simp at hv; rcases hv with rfl | rfl <;> rfl) (by unfold maxLen; omega) (by omega) (by simp; omega) ?_; intro v' w5 hown5 hgrow5 hnil5; clear hi hz0 hz1 hz2 hnil5; obtain ⟨g5, cap5, rfl⟩ := form_succ hown5; obtain ⟨q0, q1⟩ := hT'.out.box5 hgrow5; have htake := take_any (hT'.out.que6 (o2 := .cells #[.int .i64 y.p, .int .i64 y.i] 30) hgrow5) hT'.out.ok; have hst : Hid _ := fun w7 x' h7 => hT'.out.step (w7 := w7) (x' := x') hlt'.out hgrow5 hown5 h7; have hbm5 : Hid (bm < w5.heap.size) := hT'.out.bm5 hgrow5; have hlens : Hid (done.length + 1 + S.L.length = l.length) := hT'.out.lens hlt'.out; clear hrow hgrow5 hown5))
            | (go_at_call 20; refine htake.mono ?_; rintro e w7 ⟨x7, rfl, hT7⟩; obtain ⟨z0, z1, z2, z3⟩ := tak_box hT7 hbm5.out; clear htake)
            | go_in)
          obtain ⟨S', h8⟩ := hst.out w7 x7 hT7
          obtain ⟨p8, c8, e8⟩ := row_form hT'.out.row
          refine ⟨⟨done ++ [y], x7, S', _, rfl, ?_, h8⟩, ?_⟩
          · have := hlens.out
            rw [show decide (0 < S.L.length) = decide ((done ++ [y]).length < l.length) by rw [decide_eq_decide]; simp; omega]
          · rw [e8]
            simp only [slen]
            have := hlt'.out
            omega
        · obtain ⟨p8, c8, rfl⟩ := row_form hT.row
          have hfin := hT.fin hlt
          have hrow := hT.row
          have hbl := hT.bl
          have hdl : done.length = l.length := by
            have := congrArg List.length hfin
            rw [srt_len] at this
            omega
          rw [← hfin, srt_len] at hrow
          have hrow' : Hid _ := hrow
          have hbl' : Hid (Below bm w wr) := hbl
          have hfin' : Hid (srt l = done) := hfin
          clear hrow hT hfin hbl
          have hdl' : Hid (done.length = l.length) := hdl
          clear hdl
          go_wp2
          go_ret2
          rw [hsz.out]
          refine ⟨p8, c8, ?_, ?_, hbl'.out⟩
          · rw [← hdl'.out]; rfl
          · have := hrow'.out
            rw [show l.length = done.length from hdl'.out.symm] at this ⊢
            exact this

set_option maxHeartbeats 1000000 in
set_option maxRecDepth 100000 in
theorem sort_dup {w : World} {q : Option Addr} {cap : Nat} {l : List Th} (h : Its w q l) (hl : l.length ≤ 200) (hu : ¬ uniq l) :
    Calls Try.prog 9 #[.slice q l.length cap] w fun e w' => e = .returned (.tuple #[.slice none 0 0, .int .i64 6]) ∧ Below w.heap.size w w' := by
  have hl' : ¬ (200 : Int) < (l.length : Int) := by omega
  obtain ⟨ht, hI⟩ := h
  have ht' : Hid (∀ j, j < l.length → (th l j).t = j) := ht
  have hu' : Hid (¬ uniq l) := hu
  clear ht hu
  go_enter Try.func9, Try.ntmps9
  go_wp2_with (first
    | (go_at_call 15; refine (new_any _).mono ?_; rintro e w2 ⟨rfl, hQ2, hb2⟩)
    | go_in)
  generalize hqb : w.heap.size + 1 = qb at *
  generalize hbm : w.heap.size = bm at *
  have hsz : Hid (w.heap.size = bm) := hbm
  clear hbm hqb
  go_loopw [17] (fun iv wr => ∃ j : Nat, iv = .int .i64 j ∧ j ≤ l.length ∧ uniq (l.take j) ∧ Que bm wr qb bm ⟨j, l.take j⟩ ∧ Below bm w wr)
    (fun iv _ => l.length - (intOf iv).toNat)
  case atStart => exact ⟨0, rfl, Nat.zero_le _, by simp [uniq], by simpa using hQ2, hb2⟩
  case round =>
    clear hQ2 hb2
    obtain ⟨j, rfl, hjl, hut, hQ, hbl⟩ := hrel
    by_cases hj : j < l.length
    · rcases hI with h0 | ⟨b, o, rfl, hA⟩
      · omega
      have hbB : b < bm := by have := hA.lt; have := hsz.out; omega
      have hAr := hA.below hbl hbB
      have z0 := hAr.cp j hj
      have z1 := hAr.ci j hj
      have wi := hAr.wi j hj
      have hji : (j : Int) < (l.length : Int) := by omega
      have hj2 : Hid (j ≤ 100000) := by show _ ≤ _; omega
      have hput := put_any (p := (th l j).p) (hQ.below ((Below.refl wr.heap.size wr).alloc (Nat.le_refl _) (.cells #[.int .i64 (th l j).p, .int .i64 (th l j).i] 30))) (ok_take ht'.out hjl hl hut) (by omega) wi
      have hbq : Hid (Below bm w (wr.alloc (.cells #[.int .i64 (th l j).p, .int .i64 (th l j).i] 30))) := hbl.alloc (by have := hQ.base; omega) _
      cases hno : hasId (l.take j) (th l j).i
      · rw [(put_step ht'.out hj hl hno).1, (put_step ht'.out hj hl hno).2] at hput
        have hut1 : Hid (uniq (l.take (j + 1))) := uniq_snoc hj hut hno
        generalize th l j = x at *
        clear hA hAr hQ hbl hno hut
        go_wp2_with (first
          | (go_at_call 16; refine hput.mono ?_; rintro e w3 ⟨rfl, hQ3, hF3⟩; clear hput)
          | go_in)
        refine ⟨⟨j + 1, ?_, hj, hut1.out, hQ3, hbq.out.trans hF3.below⟩, ?_⟩
        · first | exact int_succ j | exact int_wsucc hj2.out
        · first | exact meas_1 hj | exact meas_w hj hj2.out
      · have e6 : putE ⟨j, l.take j⟩ (th l j).i = 6 := by simp [putE, hno]
        rw [e6] at hput
        generalize th l j = x at *
        clear hA hAr hQ hbl hno hut e6
        go_wp2_with (first
          | (go_at_call 16; refine hput.mono ?_; rintro e w3 ⟨rfl, hQ3, hF3⟩; clear hput)
          | go_in)
        go_ret2
        rw [hsz.out]
        exact ⟨rfl, hbq.out.trans hF3.below⟩
    · have e : j = l.length := by omega
      subst e
      rw [List.take_length] at hut
      exact absurd hut hu'.out
end Go.Proofs.Ythkhlgannimebaa
