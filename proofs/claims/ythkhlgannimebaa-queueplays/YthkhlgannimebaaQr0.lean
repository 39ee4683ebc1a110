/- The reference's rows of items: how they lie, and what append leaves of them. -/
import Derived.Test.YthkhlgannimebaaQla
namespace Go.Proofs.Ythkhlgannimebaa
open Go.RowKit Go.Maps Go.Sort Qum
set_option linter.unusedSectionVars false

/-- A row of n items at the head of a block; of what lies behind its capacity nothing is said. -/
def Rrow (w : World) (v : Value) (n : Nat) (xs : List Value) : Prop :=
  xs.length = n * 2 ∧ ((v = .slice none 0 0 ∧ n = 0) ∨ ∃ g cap cur, v = .slice (some ⟨g, 0, none⟩) n cap ∧ w.heap[g]? = some (.cells cur 30 (0, 0)) ∧ n ≤ cap ∧ cap ≤ maxLen ∧ cap * 2 ≤ cur.size ∧ cur.toList.take (n * 2) = xs)

theorem Rrow.lt {w : World} {v : Value} {n : Nat} {xs : List Value} (h : Rrow w v n xs) : ∀ k, v.ownBlock = some k → k < w.heap.size := by
  intro k hk
  rcases h.2 with ⟨rfl, _⟩ | ⟨g, cap, cur, rfl, hg, _⟩
  · simp [Value.ownBlock] at hk
  · simp [Value.ownBlock] at hk
    subst hk
    exact (Array.getElem?_eq_some_iff.1 hg).1
theorem Rrow.kept {w w' : World} {v : Value} {n : Nat} {xs : List Value} (h : Rrow w v n xs) (hk : ∀ k, v.ownBlock = some k → w'.heap[k]? = w.heap[k]?) : Rrow w' v n xs := by
  refine ⟨h.1, ?_⟩
  rcases h.2 with hn | ⟨g, cap, cur, rfl, hg, r⟩
  · exact Or.inl hn
  · exact Or.inr ⟨g, cap, cur, rfl, (hk g rfl).trans hg, r⟩
theorem Rrow.alloc {w : World} {v : Value} {n : Nat} {xs : List Value} (h : Rrow w v n xs) (o : Obj) : Rrow (w.alloc o) v n xs := h.kept fun k hk => Below.heap_alloc w o k (h.lt k hk)
theorem Rrow.below {w w' : World} {v : Value} {n : Nat} {xs : List Value} (h : Rrow w v n xs) (hb : Below w.heap.size w w') : Rrow w' v n xs := h.kept fun k hk => hb.block k (h.lt k hk)
theorem Rrow.cells {w : World} {g n cap : Nat} {xs : List Value} (h : Rrow w (.slice (some ⟨g, 0, none⟩) n cap) n xs) {j : Nat} (hj : j < n * 2) : w.cell? ⟨g, j, none⟩ = xs[j]? := by
  rcases h.2 with ⟨h0, _⟩ | ⟨g', cap', cur, hv, hg, h1, h2, h3, h4⟩
  · simp at h0
  · obtain ⟨rfl, rfl⟩ : g = g' ∧ cap = cap' := by simpa using hv
    rw [cell_of_row w g j cur _ _ hg, ← h4, List.getElem?_take_of_lt hj, Array.getElem?_toList]

theorem Rrow_nil (w : World) : Rrow w (.slice none 0 0) 0 [] := ⟨rfl, Or.inl ⟨rfl, rfl⟩⟩

/-- A new block: what append lays. -/
theorem Rrow_new {w : World} {xs : List Value} {n cap : Nat} {z : Array Value} (hx : xs.length = n * 2) (hc : n ≤ cap) (hm : cap ≤ maxLen) (hz : z.size = (cap - n) * 2) :
    Rrow (w.alloc (.cells (xs.toArray ++ z) 30)) (.slice (some ⟨w.heap.size, 0, none⟩) n cap) n xs := by
  refine ⟨hx, Or.inr ⟨w.heap.size, cap, _, rfl, heap_alloc_new w _, hc, hm, ?_, ?_⟩⟩
  · simp [hx, hz]; omega
  · rw [← hx]; simp

theorem app_one {w : World} {v : Value} {n : Nat} {xs : List Value} {a : Addr} {c : Nat} {news : List Value} (h : Rrow w v n xs) (hl : news.length = 2) (hn : ∀ j u, news[j]? = some u → w.cell? (a.add j) = some u) (h1 : ∀ u ∈ news, u.oneCell' = true) (hb : n ≤ 1000) (ty : TypeId) :
    ∃ v' w', (Builtin.append_ #[22, 22] ty #[v, .slice (some a) 1 c]).run Try.prog w = .ok v' w' ∧ Rrow w' v' (n + 1) (xs ++ news) ∧ w.grownBy w' v.ownBlock ∧ (v'.ownBlock = v.ownBlock ∨ v'.ownBlock = some w.heap.size) := by
  obtain ⟨i0, hi, hz0, hz1, hz2⟩ := info_parts info_item
  have hl' : news.length = 1 * i0.size := by rw [hz1, hl]
  have zc : ∀ k, (Builtin.zeroCells (Value.agg #[.int .i64 0, .int .i64 0]).cells k).size = k * 2 := fun k => by rw [size_zeroCells]; rfl
  rcases h.2 with ⟨rfl, rfl⟩ | ⟨g, cap, cur, rfl, hg, k1, k2, k3, k4⟩
  · have hx : xs = [] := List.eq_nil_of_length_eq_zero (by simpa using h.1)
    subst hx
    have hr := run_append_nil (P := Try.prog) w 22 ty 30 i0 _ Try.underlying22 hi hz0 a 1 c news hl' hn (by decide) (by decide) (by rw [hz2]; decide)
    have hge := grownCap_ge w 1 0 30
    have hcm := grownCap_le_maxLen w 1 0 30 (by unfold maxLen; omega)
    refine ⟨_, _, hr, ?_, ⟨rfl, rfl, rfl, by simp, fun k hk _ => heap_alloc_old w.drew _ k hk⟩, Or.inr rfl⟩
    have := Rrow_new (w := w.drew) (xs := news) (n := 1) (cap := grownCap w 1 0 30) (z := Builtin.zeroCells (Value.agg #[.int .i64 0, .int .i64 0]).cells (grownCap w 1 0 30 - 1)) (by rw [hl]) hge hcm (zc _)
    simpa using this
  · by_cases hroom : n + 1 ≤ cap
    · have hr := run_append_room (P := Try.prog) w 22 ty 30 i0 Try.underlying22 hi g n cap cur hg a 1 c news hl' hn h1 hroom (by rw [hz1, hl]; omega)
      refine ⟨_, _, hr, ⟨by rw [List.length_append, h.1, hl]; omega, Or.inr ⟨g, cap, _, rfl, setRow_heap w g cur _ 30 _ hg, hroom, k2, ?_, ?_⟩⟩, ⟨rfl, rfl, rfl, by simp, fun k _ hk => setRow_other w g k _ (fun e => hk (by simp [Value.ownBlock, e]))⟩, Or.inl rfl⟩
      · simp only [List.size_toArray, List.length_append, List.length_take, List.length_drop, Array.length_toList, hz1, hl]
        omega
      · rw [hz1, k4]
        have e : (xs ++ news).length = (n + 1) * 2 := by rw [List.length_append, h.1, hl]; omega
        rw [← e]
        exact List.take_left
    · have hr := run_append_grow (P := Try.prog) w 22 ty 30 i0 _ Try.underlying22 hi hz0 ⟨g, 0, none⟩ n cap xs (by rw [hz1, h.1]) (fun j u hu => by
        have hj : j < n * 2 := by have := (List.getElem?_eq_some_iff.1 hu).1; rw [h.1] at this; exact this
        rw [Addr.add_lit, Nat.zero_add, h.cells hj, hu]) a 1 c news hl' hn (by omega) (by omega) (by
          rw [hz2]
          exact growslice_fits (by omega) (by omega))
      have hge := grownCap_ge w (n + 1) cap 30
      have hcm := grownCap_le_maxLen w (n + 1) cap 30 (by unfold maxLen; omega)
      refine ⟨_, _, hr, ?_, ⟨rfl, rfl, rfl, by simp, fun k hk _ => heap_alloc_old w.drew _ k hk⟩, Or.inr rfl⟩
      have := Rrow_new (w := w.drew) (xs := xs ++ news) (n := n + 1) (cap := grownCap w (n + 1) cap 30) (z := Builtin.zeroCells (Value.agg #[.int .i64 0, .int .i64 0]).cells (grownCap w (n + 1) cap 30 - (n + 1))) (by rw [List.length_append, h.1, hl]; omega) hge hcm (zc _)
      simpa using this

set_option maxRecDepth 100000 in
/-- One is cut out of the row: append(s[:i:i], s[i+1:]...). -/
theorem app_cut {w : World} {g n cap i c2 : Nat} {xs : List Value} {A2 : Addr} (h : Rrow w (.slice (some ⟨g, 0, none⟩) n cap) n xs) (hi : i < n) (hA : i + 1 < n → A2 = ⟨g, (i + 1) * 2, none⟩) (hb : n ≤ 1000) (ty : TypeId) :
    ∃ v' w', (Builtin.append_ #[22, 22] ty #[.slice (some ⟨g, 0, none⟩) i i, .slice (some A2) (n - (i + 1)) c2]).run Try.prog w = .ok v' w' ∧ Rrow w' v' (n - 1) (xs.take (i * 2) ++ xs.drop ((i + 1) * 2)) ∧ w.grownBy w' (some g) ∧ (v'.ownBlock = some g ∨ v'.ownBlock = some w.heap.size) := by
  obtain ⟨i0, hin, hz0, hz1, hz2⟩ := info_parts info_item
  have zc : ∀ k, (Builtin.zeroCells (Value.agg #[.int .i64 0, .int .i64 0]).cells k).size = k * 2 := fun k => by rw [size_zeroCells]; rfl
  have hxl := h.1
  rcases h.2 with ⟨h0, _⟩ | ⟨g', cap', cur, hv, hg, k1, k2, k3, k4⟩
  · simp at h0
  obtain ⟨rfl, rfl⟩ : g = g' ∧ cap = cap' := by simpa using hv
  have hlen : (xs.take (i * 2) ++ xs.drop ((i + 1) * 2)).length = (n - 1) * 2 := by simp [hxl]; omega
  by_cases hm : i + 1 < n
  · obtain rfl := hA hm
    have hr := run_append_grow (P := Try.prog) w 22 ty 30 i0 _ Try.underlying22 hin hz0 ⟨g, 0, none⟩ i i (xs.take (i * 2)) (by rw [hz1]; simp [hxl]; omega) (fun j u hu => by
        have hj : j < i * 2 := by have := (List.getElem?_eq_some_iff.1 hu).1; simp at this; omega
        rw [List.getElem?_take_of_lt hj] at hu
        rw [Addr.add_lit, Nat.zero_add, h.cells (by omega), hu]) ⟨g, (i + 1) * 2, none⟩ (n - (i + 1)) c2 (xs.drop ((i + 1) * 2)) (by rw [hz1]; simp [hxl]; omega) (fun j u hu => by
        rw [List.getElem?_drop] at hu
        have hj : (i + 1) * 2 + j < n * 2 := by have := (List.getElem?_eq_some_iff.1 hu).1; omega
        rw [Addr.add_lit, h.cells hj, hu]) (by omega) (by omega) (by rw [hz2]; exact growslice_fits (by omega) (by omega))
    have e : i + (n - (i + 1)) = n - 1 := by omega
    rw [e] at hr
    have hge := grownCap_ge w (n - 1) i 30
    have hcm := grownCap_le_maxLen w (n - 1) i 30 (by unfold maxLen; omega)
    refine ⟨_, _, hr, ?_, ⟨rfl, rfl, rfl, by simp, fun k hk _ => heap_alloc_old w.drew _ k hk⟩, Or.inr rfl⟩
    have := Rrow_new (w := w.drew) (xs := xs.take (i * 2) ++ xs.drop ((i + 1) * 2)) (n := n - 1) (cap := grownCap w (n - 1) i 30) (z := Builtin.zeroCells (Value.agg #[.int .i64 0, .int .i64 0]).cells (grownCap w (n - 1) i 30 - (n - 1))) hlen hge hcm (zc _)
    simpa using this
  · have e : n = i + 1 := by omega
    subst e
    have hr := run_append_room (P := Try.prog) w 22 ty 30 i0 Try.underlying22 hin g i i cur hg A2 0 c2 [] (by simp) (fun j u hu => by simp at hu) (fun u hu => by cases hu) (by omega) (by rw [hz1]; simp; omega)
    rw [show i + 1 - (i + 1) = 0 by omega]
    refine ⟨_, _, hr, ⟨hlen, Or.inr ⟨g, i, _, rfl, setRow_heap w g cur _ 30 _ hg, by omega, by omega, ?_, ?_⟩⟩, ⟨rfl, rfl, rfl, by simp, fun k _ hk => setRow_other w g k _ (fun e => hk (by rw [e]))⟩, Or.inl rfl⟩
    · simp only [List.size_toArray, List.length_append, List.length_take, List.length_drop, Array.length_toList, hz1, List.length_nil]
      omega
    · have e1 : xs.drop ((i + 1) * 2) = [] := List.drop_eq_nil_of_le (by omega)
      rw [e1, List.append_nil, hz1]
      simp only [List.append_nil, List.length_nil, Nat.add_zero, List.take_append_drop]
      rw [← k4, List.take_take]
      congr 1
      omega
end Go.Proofs.Ythkhlgannimebaa
