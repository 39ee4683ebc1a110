/- slices.Clone and slices.Delete at rows of edges. -/
import Derived.Test.YtncjnmlgkhngaaaDoorGcl
import Derived.Maps.AppendAt
import Derived.Deep.Upon
import Derived.Deep.RegionLaw
import Derived.Shelf.RegionOpenPlain
import Derived.Lib.Walk
namespace Go.Proofs.YtncjnmlgkhngaaaDoor
open Go.RowKit Go.Maps Go.Lib Gm
open Go.RowKit (Below)
set_option linter.unusedSectionVars false
set_option linter.unusedVariables false
set_option linter.unusedSimpArgs false

theorem flatE_one (l : List Ed) : ∀ u ∈ flatE l, u.oneCell' = true := by
  intro u hu
  unfold flatE at hu
  obtain ⟨x, _, hx⟩ := List.mem_flatMap.1 hu
  simp at hx
  rcases hx with rfl | rfl <;> rfl
theorem wpList_clone_e {w : World} {ops : Array Oper} {rest : List Oper} {o : Oper} {a : Act} {Q : Exit → Act → World → Prop} (hg : o.guard = none)
    (s x : Operand) (hop : o.op = Op.call { callee := Callee.builtin Builtin.append, args := #[s, x], argTypes := #[22, 22] })
    {v : Value} {g c n B : Nat} {xs : List Value} (hB : B ≤ w.heap.size) (hs : a.eval s = v) (hx : a.eval x = .slice (some ⟨g, 0, none⟩) n c) (h0 : w.ownsRow B 41 2 v 0 []) (hl : xs.length = n * 2) (hc : ∀ j u, xs[j]? = some u → w.cell? ⟨g, j, none⟩ = some u) (h1 : ∀ u ∈ xs, u.oneCell' = true) (hb : n ≤ 4000)
    (hK : ∀ v' w', w'.ownsRow B 41 2 v' n xs → w.grownBy w' v.ownBlock → wpList Tryd.prog ops Q rest (a.put o.dst v') w') :
    wpList Tryd.prog ops Q (o :: rest) a w := by
  obtain ⟨i0, hi, hz0, hz1, hz2⟩ := info_parts info_edge
  refine wpList_plain hg fun K' hK' => ?_
  obtain ⟨v', w', hrun, r1, r2, _, _⟩ := run_append_own_at (P := Tryd.prog) (w := w) B 22 o.type 41 i0 (.agg #[.int .i64 0, .int .i64 0]) 2 16 Tryd.underlying22 hi hz0 hz1 hz2 rfl (by decide) v 0 [] h0 ⟨g, 0, none⟩ n c xs (by omega) (fun j u hu => by rw [Addr.add_lit, Nat.zero_add]; exact hc j u hu) h1 (by unfold maxLen; omega) (by omega) hB
  rw [Nat.zero_add, List.nil_append] at r1
  unfold Oper.wp
  simp [execOp, hop, resolve, invoke, builtin, hs, hx, hrun, Result.andThen]
  exact hK' _ _ (hK v' w' r1 r2)
theorem ownsRow_form' {w : World} {B : Nat} {e : TypeId} {k : Nat} {v : Value} {n : Nat} {xs : List Value} (h : w.ownsRow B e k v n xs) : ∃ p cap, v = .slice p n cap := by
  rcases h.2 with ⟨rfl, rfl⟩ | ⟨g, cap, cur, rfl, _⟩
  · exact ⟨none, 0, rfl⟩
  · exact ⟨_, cap, rfl⟩

set_option maxRecDepth 100000 in
theorem clone_e {w : World} {B : Nat} {p : Option Addr} {c : Nat} {n : Nat} {L : List Ed} (h : w.ownsRow B 41 2 (.slice p n c) n (flatE L)) (hL : L.length = n) (hn0 : 0 < n) (hn : n ≤ 4000) :
    Calls Tryd.prog 27 #[.slice p n c] w fun e w' => ∃ (g cap : Nat), e = .returned (.slice (some ⟨g, 0, none⟩) n cap) ∧ w'.ownsRow w.heap.size 41 2 (.slice (some ⟨g, 0, none⟩) n cap) n (flatE L) ∧ Below w.heap.size w w' := by
  have hnil := fun (w : World) (a : Option Addr) (n c : Nat) => Lib.run_eql_slice_nil (P := Tryd.prog) w 22 41 a n c 0 0 Tryd.underlying22
  rcases h.2 with ⟨_, h0⟩ | ⟨g, cap, cur, hv, _⟩
  · omega
  · obtain ⟨rfl, rfl⟩ : p = some ⟨g, 0, none⟩ ∧ c = cap := by simpa using hv
    have hlen : (flatE L).length = n * 2 := by rw [flatE_len, hL]
    have hal : (w.alloc (.cells #[] 41)).ownsRow w.heap.size 41 2 (.slice (some ⟨w.heap.size, 0, none⟩) 0 0) 0 [] := ⟨rfl, Or.inr ⟨w.heap.size, 0, #[], rfl, Nat.le_refl _, heap_alloc_new w _, Nat.le_refl _, by unfold maxLen; omega, rfl, rfl⟩⟩
    have hcl : Hid (∀ j u, (flatE L)[j]? = some u → (w.alloc (.cells #[] 41)).cell? ⟨g, j, none⟩ = some u) := fun j u hu => by
      have hj : j < n * 2 := by have := (List.getElem?_eq_some_iff.1 hu).1; omega
      have := h.cellAt j hj
      rw [hu] at this
      exact cell_alloc this _
    have hn' : Hid (n ≤ 4000) := hn
    have hn0' : Hid (0 < n) := hn0
    have h1 : Hid (∀ u ∈ flatE L, u.oneCell' = true) := flatE_one L
    have hlenH : Hid ((flatE L).length = n * 2) := hlen
    clear h hn hn0 hlen hL hv
    go_enter Tryd.func27, Tryd.ntmps27
    go_wp2_with (first
      | (at_builtin; refine wpList_clone_e (B := w.heap.size) rfl _ _ rfl (by simp) rfl rfl hal hlenH.out hcl.out h1.out hn'.out ?_; intro v' w2 r2 hg2; obtain ⟨p', c', rfl⟩ := ownsRow_form' r2)
      | go_in)
    go_ret
    have hg3 : (w.alloc (.cells #[] 41)).grownBy w2 (some w.heap.size) := hg2
    obtain ⟨g2, rfl⟩ : ∃ g2, p' = some ⟨g2, 0, none⟩ := by
      rcases r2.2 with ⟨_, h0⟩ | ⟨g, cap, cur, hv, _⟩
      · have := hn0'.out; omega
      · exact ⟨g, by injection hv⟩
    refine ⟨_, _, rfl, r2, ⟨hg3.os, hg3.tape, hg3.output, ?_, fun k hk => ?_⟩⟩
    · have := hg3.size; simp at this; omega
    · rw [hg3.block k (by simp; omega) (fun e => by cases e; omega), Below.heap_alloc _ _ _ hk]

/-- A row written over from a place on. -/
def layC (cur : Array Value) : Nat → List Value → Array Value
  | _, [] => cur
  | j, x :: xs => layC (cur.setIfInBounds j x) (j + 1) xs
theorem layC_size : ∀ (xs : List Value) (j : Nat) (cur : Array Value), (layC cur j xs).size = cur.size
  | [], _, _ => rfl
  | x :: xs, j, cur => by rw [layC, layC_size xs]; simp
theorem layC_get : ∀ (xs : List Value) (j : Nat) (cur : Array Value) (k : Nat), k < cur.size → (layC cur j xs)[k]? = if j ≤ k ∧ k < j + xs.length then xs[k - j]? else cur[k]?
  | [], j, cur, k, hk => by rw [layC, if_neg (by simp)]
  | x :: xs, j, cur, k, hk => by
    rw [layC, layC_get xs (j + 1) _ k (by simpa using hk)]
    by_cases e : k = j
    · subst e
      rw [if_neg (by omega), if_pos (by simp)]
      simp [hk]
    · by_cases h : j + 1 ≤ k ∧ k < j + 1 + xs.length
      · rw [if_pos h, if_pos (by simp; omega), show k - j = (k - (j + 1)) + 1 by omega]
        simp
      · rw [if_neg h, if_neg (by simp; omega)]
        simp [Array.getElem?_setIfInBounds, Ne.symm e]
theorem heap_setCells_lay (g : Nat) (e : TypeId) : ∀ (xs : List Value) (j : Nat) (w : World) (cur : Array Value), w.heap[g]? = some (.cells cur e) → (w.setCells g j xs).heap[g]? = some (.cells (layC cur j xs) e)
  | [], _, _, _, h => h
  | x :: xs, j, w, cur, h => heap_setCells_lay g e xs (j + 1) _ _ (heap_setCell_same w g j _ _ _ h)
theorem run_clear_ed {w : World} {g j c : Nat} (h0 : (w.cell? ⟨g, j, none⟩).isSome = true) (h1 : (w.cell? ⟨g, j + 1, none⟩).isSome = true) (f0 : w.frozen? ⟨g, j, none⟩ = false) (f1 : w.frozen? ⟨g, j + 1, none⟩ = false) (ty : TypeId) :
    (Builtin.clear_ #[22] ty #[.slice (some ⟨g, j, none⟩) 1 c]).run Tryd.prog w = .ok (.tuple #[]) (w.setCells g j [.int .i64 0, .int .i64 0]) := by
  have hz : (zeroValue 41).run Tryd.prog w = .ok (.agg #[.int .i64 0, .int .i64 0]) w := by kernel_rfl
  have hzc : (Builtin.zeroCells (Value.agg #[.int .i64 0, .int .i64 0]).cells 1).toList = [.int .i64 0, .int .i64 0] := by kernel_rfl
  have hst := run_storeCells_cells (P := Tryd.prog) g j [.int .i64 0, .int .i64 0] 0 w (fun k hk => by
    rcases (show k = 0 ∨ k = 1 by simp at hk; omega) with rfl | rfl
    · simpa using h0
    · simpa using h1) (fun k hk => by
    rcases (show k = 0 ∨ k = 1 by simp at hk; omega) with rfl | rfl
    · simpa using f0
    · simpa using f1) (by simp [Value.oneCell'])
  simp only [Nat.add_zero] at hst
  simp [Builtin.clear_, run_underlying Tryd.underlying22, hz, hzc, hst]

theorem below_cells {B g : Nat} (hg : B ≤ g) : ∀ (vs : List Value) (o : Nat) (w : World), Below B w (w.setCells g o vs)
  | [], _, w => Below.refl B w
  | v :: r, o, w => ((Below.refl B w).setCell (p := ⟨g, o, none⟩) hg v).trans (below_cells hg r (o + 1) _)

theorem flatE_erase {L : List Ed} {j : Nat} : flatE (L.eraseIdx j) = (flatE L).take (j * 2) ++ (flatE L).drop ((j + 1) * 2) := by
  have tk : ∀ (L : List Ed) (m : Nat), (flatE L).take (m * 2) = flatE (L.take m) := by
    intro L
    induction L with
    | nil => intro m; simp [flatE]
    | cons x r ih =>
      intro m
      cases m with
      | zero => simp [flatE]
      | succ m => have := ih m; simp [flatE] at this ⊢; rw [show (m + 1) * 2 = m * 2 + 1 + 1 by omega]; simp [this]
  have dk : ∀ (L : List Ed) (m : Nat), (flatE L).drop (m * 2) = flatE (L.drop m) := by
    intro L
    induction L with
    | nil => intro m; simp [flatE]
    | cons x r ih =>
      intro m
      cases m with
      | zero => simp [flatE]
      | succ m => have := ih m; simp [flatE] at this ⊢; rw [show (m + 1) * 2 = m * 2 + 1 + 1 by omega]; simp [this]
  rw [List.eraseIdx_eq_take_drop_succ, flatE_app, tk, dk]

set_option maxHeartbeats 2000000 in
set_option maxRecDepth 100000 in
theorem del_e {w : World} {B : Nat} {g cap n i : Nat} {L : List Ed} (h : w.ownsRow B 41 2 (.slice (some ⟨g, 0, none⟩) n cap) n (flatE L)) (hL : L.length = n) (hi : i < n) (hn : n ≤ 4000) (hB : B ≤ w.heap.size) :
    Calls Tryd.prog 26 #[.slice (some ⟨g, 0, none⟩) n cap, .int .i64 (i : Int), .int .i64 ((i : Int) + 1)] w fun e w' => e = .returned (.slice (some ⟨g, 0, none⟩) (n - 1) cap) ∧ w'.ownsRow B 41 2 (.slice (some ⟨g, 0, none⟩) (n - 1) cap) (n - 1) (flatE (L.eraseIdx i)) ∧ Below B w w' := by
  rcases h.2 with ⟨h0, _⟩ | ⟨g', cap', cur, hv, hBg, hh, hc1, hc2, hc3, hc4⟩
  · simp at h0
  obtain ⟨rfl, rfl⟩ : g = g' ∧ cap = cap' := by simpa using hv
  have hfl : (flatE L).length = n * 2 := by rw [flatE_len, hL]
  have hcell : ∀ k, k < n * 2 → w.cell? ⟨g, k, none⟩ = (flatE L)[k]? := fun k hk => h.cellAt k hk
  have hfz : ∀ k, w.frozen? ⟨g, k, none⟩ = false := fun k => by simp [World.frozen?, hh]
  have hsm : ∀ k, k < n * 2 → (w.cell? ⟨g, k, none⟩).isSome = true := fun k hk => by rw [hcell k hk, List.getElem?_eq_getElem (by omega)]; rfl
  obtain ⟨news, hnews⟩ : ∃ news, news = (flatE L).drop ((i + 1) * 2) := ⟨_, rfl⟩
  have hlen : news.length = (n - (i + 1)) * 2 := by rw [hnews]; simp; omega
  have hone : Hid (∀ u ∈ news, u.oneCell' = true) := fun u hu => flatE_one L u (by rw [hnews] at hu; exact List.mem_of_mem_drop hu)
  obtain ⟨A, hA, hsrc⟩ : ∃ A : Addr, (if cap = i + 1 then some (⟨g, 0, none⟩ : Addr) else some ⟨g, (i + 1) * 2, none⟩) = some A ∧ Hid (∀ t u, news[t]? = some u → w.drew.cell? (A.add t) = some u) := by
    by_cases hq : cap = i + 1
    · refine ⟨⟨g, 0, none⟩, by simp [hq], fun t u hu => ?_⟩
      have h0 : news.length = 0 := by rw [hlen]; omega
      rw [List.length_eq_zero_iff.1 h0] at hu
      simp at hu
    · refine ⟨⟨g, (i + 1) * 2, none⟩, by simp [hq], fun t u hu => ?_⟩
      have ht : t < (n - (i + 1)) * 2 := by
        have := (List.getElem?_eq_some_iff.1 hu).1
        rwa [hlen] at this
      rw [Addr.add_lit]
      show w.cell? _ = _
      rw [hcell _ (by omega), ← hu, hnews, List.getElem?_drop]
  have s1 : Hid (news.length = (n - (i + 1)) * 2) := hlen
  have s3 : Hid (∀ t, t < news.length → (w.drew.cell? ⟨g, 0 + i * 2 + t, none⟩).isSome = true ∧ w.drew.frozen? ⟨g, 0 + i * 2 + t, none⟩ = false) := by
    intro t ht
    rw [hlen] at ht
    rw [Nat.zero_add]
    exact ⟨hsm _ (by omega), hfz _⟩
  obtain ⟨W1, hW1⟩ : ∃ W1, W1 = w.drew.setCells g (0 + i * 2) news := ⟨_, rfl⟩
  have hh1 : W1.heap[g]? = some (.cells (layC cur (0 + i * 2) news) 41) := by rw [hW1]; exact heap_setCells_lay g _ news _ w.drew cur hh
  have hcl : ∀ ty, (Builtin.clear_ #[22] ty #[.slice (some ⟨g, (i + (n - (i + 1))) * 2, none⟩) (n - (i + (n - (i + 1)))) (cap - (i + (n - (i + 1))))]).run Tryd.prog W1 = .ok (.tuple #[]) (W1.setCells g ((n - 1) * 2) [.int .i64 0, .int .i64 0]) := fun ty => by
    rw [show n - (i + (n - (i + 1))) = 1 by omega, show i + (n - (i + 1)) = n - 1 by omega]
    have hc : ∀ k, k < cap * 2 → (W1.cell? ⟨g, k, none⟩).isSome = true := fun k hk => by
      rw [cell_of_row _ _ k _ _ _ hh1, Array.getElem?_eq_getElem (by rw [layC_size]; omega)]
      rfl
    refine run_clear_ed (hc _ (by omega)) (hc _ (by omega)) ?_ ?_ ty <;> simp [World.frozen?, hh1]
  have X : Hid (W1.heap[g]? = some (.cells (layC cur (0 + i * 2) news) 41)) := hh1
  have hW : Hid (W1 = w.drew.setCells g (0 + i * 2) news) := hW1
  have hic : i ≤ cap := by omega
  have hjc : i + 1 ≤ cap := by omega
  obtain ⟨i0, hi0, hz0, hz1, hz2⟩ := info_parts info_edge
  have hii : Hid (i < n) := hi
  have hni : Hid (n ≤ 4000) := hn
  have hfin : Hid ((W1.setCells g ((n - 1) * 2) [.int .i64 0, .int .i64 0]).ownsRow B 41 2 (.slice (some ⟨g, 0, none⟩) (n - 1) cap) (n - 1) (flatE (L.eraseIdx i)) ∧ Below B w (W1.setCells g ((n - 1) * 2) [.int .i64 0, .int .i64 0])) := by
    have hx := heap_setCells_lay g _ [.int .i64 0, .int .i64 0] ((n - 1) * 2) W1 _ hh1
    have hel : (flatE (L.eraseIdx i)).length = (n - 1) * 2 := by rw [flatE_len, List.length_eraseIdx, if_pos (by omega), hL]
    refine ⟨⟨hel, Or.inr ⟨g, cap, _, rfl, hBg, hx, by omega, hc2, by rw [layC_size, layC_size, hc3], ?_⟩⟩, ?_⟩
    · apply List.ext_getElem?
      intro k
      by_cases hk : k < (n - 1) * 2
      · rw [List.getElem?_take_of_lt hk, Array.getElem?_toList, layC_get _ _ _ _ (by rw [layC_size]; omega), if_neg (by omega), layC_get _ _ _ _ (by omega), flatE_erase]
        have hck : cur[k]? = (flatE L)[k]? := by rw [← hc4, List.getElem?_take_of_lt (by omega), Array.getElem?_toList]
        by_cases hki : k < i * 2
        · rw [if_neg (by omega), List.getElem?_append_left (by simp; omega), List.getElem?_take_of_lt hki, hck]
        · rw [if_pos (by rw [hlen]; omega), List.getElem?_append_right (by simp; omega), hnews]
          congr 1
          simp
          omega
      · rw [List.getElem?_eq_none (by simp; omega), List.getElem?_eq_none (by omega)]
    · have b1 : Below B w W1 := by
        rw [hW1]
        exact Below.trans (Below.drew (Below.refl B w)) (below_cells hBg news _ w.drew)
      exact b1.trans (below_cells hBg _ _ W1)
  have hmx : Tryd.prog.follows Departure.mixedOrders = true := by kernel_rfl
  have q1 : (0 : Int) ≤ (i : Int) := by omega
  have q2 : (0 : Int) ≤ (i : Int) + 1 := by omega
  have q3 : (i : Int) + 1 ≤ (n : Int) := by omega
  have q4 : (i : Int) ≤ (n : Int) := by omega
  clear hW1 hh1 hnews hlen hcell hsm h hh hfl hL hc4 hc3
  go_enter Tryd.func26, Tryd.ntmps26
  go_wp2_with fail
  go_region_law_o (refine step_append_room rfl (.tmp 22) (.tmp 25) 22 rfl 41 i0 2 Tryd.underlying22 hi0 hz1 g 0 i cap (by simp [Act.eval, Act.put]) A (n - (i + 1)) (cap - (i + 1)) news (by simp [Act.eval, Act.put]) s1.out hsrc.out hone.out (by omega) s3.out ?_; rw [← hW.out])
  go_wp2
  go_ret
  rw [show i + (n - (i + 1)) = n - 1 by omega]
  exact ⟨rfl, hfin.out⟩
end Go.Proofs.YtncjnmlgkhngaaaDoor
