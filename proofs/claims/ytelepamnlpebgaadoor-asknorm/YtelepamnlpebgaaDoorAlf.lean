/- Asks whose parts lie at or above a block: what is written below leaves them. -/
import Derived.Test.YtelepamnlpebgaaDoorAkk
namespace Go.Proofs.YtelepamnlpebgaaDoor
open Go.RowKit Go.Shelf Akm Ndm
set_option linter.unusedSectionVars false
set_option linter.unusedVariables false

mutual
theorem liesT_mono {w w' : World} (hs : w.heap.size ≤ w'.heap.size) (hc : ∀ g o c, w.cell? ⟨g, o, none⟩ = some c → w'.cell? ⟨g, o, none⟩ = some c) (t : Tr) (v : Value) (h : liesT w t v) : liesT w' t v := by
  match t, h with
  | .mk k a b n xs, h =>
    rw [liesT] at h ⊢
    obtain ⟨p, cap, h1, h2, h3⟩ := h
    refine ⟨p, cap, h1, h2, h3.imp id ?_⟩
    rintro ⟨g, o, h4, h5, h6⟩
    exact ⟨g, o, h4, Nat.lt_of_lt_of_le h5 hs, liesL_mono hs hc xs g o h6⟩
theorem liesL_mono {w w' : World} (hs : w.heap.size ≤ w'.heap.size) (hc : ∀ g o c, w.cell? ⟨g, o, none⟩ = some c → w'.cell? ⟨g, o, none⟩ = some c) (l : List Tr) (g o : Nat) (h : liesL w g o l) : liesL w' g o l := by
  match l, h with
  | [], _ => rw [liesL]; trivial
  | x :: r, h =>
    rw [liesL] at h ⊢
    obtain ⟨⟨c0, c1, c2, c3, c4, hcc, hx⟩, hr⟩ := h
    exact ⟨⟨c0, c1, c2, c3, c4, ⟨hc _ _ _ hcc.1, hc _ _ _ hcc.2.1, hc _ _ _ hcc.2.2.1, hc _ _ _ hcc.2.2.2.1, hc _ _ _ hcc.2.2.2.2⟩, liesT_mono hs hc x _ hx⟩, liesL_mono hs hc r g (o + 5) hr⟩
end

/-- A world of which only the blocks from B on are seen. -/
def cutW (B : Nat) (w : World) : World := { w with heap := w.heap.mapIdx fun i o => if i < B then .deferred none else o }
theorem cutW_size (B : Nat) (w : World) : (cutW B w).heap.size = w.heap.size := by simp [cutW]
theorem cutW_block {B : Nat} {w : World} {g : Nat} (h : B ≤ g) : (cutW B w).heap[g]? = w.heap[g]? := by
  unfold cutW
  rw [Array.getElem?_mapIdx]
  cases w.heap[g]? with
  | none => rfl
  | some o => simp [Nat.not_lt.2 h]
theorem cutW_cell {B : Nat} {w : World} {g o : Nat} {c : Value} (h : (cutW B w).cell? ⟨g, o, none⟩ = some c) : B ≤ g ∧ w.cell? ⟨g, o, none⟩ = some c := by
  by_cases hg : B ≤ g
  · refine ⟨hg, ?_⟩
    unfold World.cell? at h ⊢
    rw [cutW_block hg] at h
    exact h
  · exfalso
    unfold World.cell? cutW at h
    simp only [Array.getElem?_mapIdx] at h
    cases e : w.heap[g]? with
    | none => simp [e] at h
    | some ob => simp [e, Nat.lt_of_not_le hg] at h
theorem cell_cutW {B : Nat} {w : World} {g o : Nat} {c : Value} (hg : B ≤ g) (h : w.cell? ⟨g, o, none⟩ = some c) : (cutW B w).cell? ⟨g, o, none⟩ = some c := by
  unfold World.cell? at h ⊢
  rw [cutW_block hg]
  exact h
theorem cell_blocks {w w' : World} {g o : Nat} {c : Value} (hb : w'.heap[g]? = w.heap[g]?) (h : w.cell? ⟨g, o, none⟩ = some c) : w'.cell? ⟨g, o, none⟩ = some c := by
  unfold World.cell? at h ⊢
  rw [hb]
  exact h

/-- An ask all of whose lists lie in blocks from B on. -/
def liesF (B : Nat) (w : World) (t : Tr) (v : Value) : Prop := liesT (cutW B w) t v
theorem liesF.lies {B : Nat} {w : World} {t : Tr} {v : Value} (h : liesF B w t v) : liesT w t v :=
  liesT_mono (by rw [cutW_size]; exact Nat.le_refl _) (fun g o c hc => (cutW_cell hc).2) t v h
theorem liesF.le {B B' : Nat} {w : World} {t : Tr} {v : Value} (h : liesF B w t v) (hl : B' ≤ B) : liesF B' w t v :=
  liesT_mono (by rw [cutW_size, cutW_size]; exact Nat.le_refl _) (fun g o c hc => cell_cutW (Nat.le_trans hl (cutW_cell hc).1) (cutW_cell hc).2) t v h
theorem liesF.keep {B : Nat} {w w' : World} {t : Tr} {v : Value} (h : liesF B w t v) (hs : w.heap.size ≤ w'.heap.size) (hk : ∀ g, B ≤ g → g < w.heap.size → w'.heap[g]? = w.heap[g]?) : liesF B w' t v :=
  liesT_mono (by rw [cutW_size, cutW_size]; exact hs) (fun g o c hc => by
    obtain ⟨h1, h2⟩ := cutW_cell hc
    exact cell_cutW h1 (cell_blocks (hk g h1 (World.block_lt_of_cell? w _ h2)) h2)) t v h
theorem liesF.below {B : Nat} {w w' : World} {t : Tr} {v : Value} (h : liesF B w t v) (hb : Below w.heap.size w w') : liesF B w' t v := h.keep hb.size fun g _ hg => hb.block g hg
theorem liesF.row {B : Nat} {w : World} {t : Tr} {v : Value} (h : liesF B w t v) {g : Nat} (hg : g < B) (cs : Array Value) : liesF B (w.setRow g cs) t v :=
  h.keep (by simp [World.setRow]) fun q hq _ => setRow_other w g q cs (by omega)
theorem liesF_nil (B : Nat) (w : World) (k : Int) (a b : ByteArray) (n : Int) : liesF B w (.mk k a b n []) (.agg #[.int .i64 k, .string a, .string b, .int .i64 n, .slice none 0 0]) := by
  unfold liesF
  rw [liesT]
  exact ⟨none, 0, rfl, by simp, Or.inl rfl⟩
/-- Asks built on the spot. -/
theorem lies_of1 {w : World} {g : Nat} {k : Int} {a b : ByteArray} {n : Int} {xs : List Tr} {p : Option Addr} {m cap : Nat} (hg : w.heap[g]? = some (.cells #[.int .i64 k, .string a, .string b, .int .i64 n, .slice p m cap] 24 (0, 0))) (h : liesT w (.mk k a b n xs) (.agg #[.int .i64 k, .string a, .string b, .int .i64 n, .slice p m cap])) (k2 : Int) (a2 b2 : ByteArray) (n2 : Int) (c2 : Nat) : liesT w (.mk k2 a2 b2 n2 [.mk k a b n xs]) (.agg #[.int .i64 k2, .string a2, .string b2, .int .i64 n2, .slice (some ⟨g, 0, none⟩) 1 c2]) := by
  rw [liesT]
  refine ⟨some ⟨g, 0, none⟩, c2, rfl, by simp, Or.inr ⟨g, 0, rfl, (Array.getElem?_eq_some_iff.1 hg).1, ?_⟩⟩
  rw [liesL]
  obtain ⟨z0, z1, z2, z3, z4⟩ := box5 hg
  exact ⟨⟨_, _, _, _, _, ⟨z0, z1, z2, z3, z4⟩, h⟩, by rw [liesL]; trivial⟩
theorem lies_of2 {w : World} {g : Nat} {k : Int} {a b : ByteArray} {n : Int} {xs : List Tr} {p : Option Addr} {m cap : Nat} {k' : Int} {a' b' : ByteArray} {n' : Int} {xs' : List Tr} {p' : Option Addr} {m' cap' : Nat} {t : TypeId}
    (hg : w.heap[g]? = some (.cells #[.int .i64 k, .string a, .string b, .int .i64 n, .slice p m cap, .int .i64 k', .string a', .string b', .int .i64 n', .slice p' m' cap'] t (0, 0))) (h : liesT w (.mk k a b n xs) (.agg #[.int .i64 k, .string a, .string b, .int .i64 n, .slice p m cap])) (h' : liesT w (.mk k' a' b' n' xs') (.agg #[.int .i64 k', .string a', .string b', .int .i64 n', .slice p' m' cap'])) (k2 : Int) (a2 b2 : ByteArray) (n2 : Int) (c2 : Nat) : liesT w (.mk k2 a2 b2 n2 [.mk k a b n xs, .mk k' a' b' n' xs']) (.agg #[.int .i64 k2, .string a2, .string b2, .int .i64 n2, .slice (some ⟨g, 0, none⟩) 2 c2]) := by
  rw [liesT]
  refine ⟨some ⟨g, 0, none⟩, c2, rfl, by simp, Or.inr ⟨g, 0, rfl, (Array.getElem?_eq_some_iff.1 hg).1, ?_⟩⟩
  have y0 : w.cell? ⟨g, 0, none⟩ = _ := (cell_of_row _ _ 0 _ _ _ hg).trans rfl
  have y1 : w.cell? ⟨g, 1, none⟩ = _ := (cell_of_row _ _ 1 _ _ _ hg).trans rfl
  have y2 : w.cell? ⟨g, 2, none⟩ = _ := (cell_of_row _ _ 2 _ _ _ hg).trans rfl
  have y3 : w.cell? ⟨g, 3, none⟩ = _ := (cell_of_row _ _ 3 _ _ _ hg).trans rfl
  have y4 : w.cell? ⟨g, 4, none⟩ = _ := (cell_of_row _ _ 4 _ _ _ hg).trans rfl
  have y5 : w.cell? ⟨g, 5, none⟩ = _ := (cell_of_row _ _ 5 _ _ _ hg).trans rfl
  have y6 : w.cell? ⟨g, 6, none⟩ = _ := (cell_of_row _ _ 6 _ _ _ hg).trans rfl
  have y7 : w.cell? ⟨g, 7, none⟩ = _ := (cell_of_row _ _ 7 _ _ _ hg).trans rfl
  have y8 : w.cell? ⟨g, 8, none⟩ = _ := (cell_of_row _ _ 8 _ _ _ hg).trans rfl
  have y9 : w.cell? ⟨g, 9, none⟩ = _ := (cell_of_row _ _ 9 _ _ _ hg).trans rfl
  rw [liesL, liesL, liesL]
  exact ⟨⟨_, _, _, _, _, ⟨y0, y1, y2, y3, y4⟩, h⟩, ⟨_, _, _, _, _, ⟨y5, y6, y7, y8, y9⟩, h'⟩, trivial⟩

theorem liesF_of1 {B : Nat} {w : World} {g : Nat} {k : Int} {a b : ByteArray} {n : Int} {xs : List Tr} {p : Option Addr} {m cap : Nat} (hB : B ≤ g) (hg : w.heap[g]? = some (.cells #[.int .i64 k, .string a, .string b, .int .i64 n, .slice p m cap] 24 (0, 0))) (h : liesF B w (.mk k a b n xs) (.agg #[.int .i64 k, .string a, .string b, .int .i64 n, .slice p m cap])) (k2 : Int) (a2 b2 : ByteArray) (n2 : Int) (c2 : Nat) : liesF B w (.mk k2 a2 b2 n2 [.mk k a b n xs]) (.agg #[.int .i64 k2, .string a2, .string b2, .int .i64 n2, .slice (some ⟨g, 0, none⟩) 1 c2]) :=
  lies_of1 ((cutW_block hB).trans hg) h k2 a2 b2 n2 c2
theorem liesF_of2 {B : Nat} {w : World} {g : Nat} {k : Int} {a b : ByteArray} {n : Int} {xs : List Tr} {p : Option Addr} {m cap : Nat} {k' : Int} {a' b' : ByteArray} {n' : Int} {xs' : List Tr} {p' : Option Addr} {m' cap' : Nat} {t : TypeId}
    (hB : B ≤ g) (hg : w.heap[g]? = some (.cells #[.int .i64 k, .string a, .string b, .int .i64 n, .slice p m cap, .int .i64 k', .string a', .string b', .int .i64 n', .slice p' m' cap'] t (0, 0))) (h : liesF B w (.mk k a b n xs) (.agg #[.int .i64 k, .string a, .string b, .int .i64 n, .slice p m cap])) (h' : liesF B w (.mk k' a' b' n' xs') (.agg #[.int .i64 k', .string a', .string b', .int .i64 n', .slice p' m' cap'])) (k2 : Int) (a2 b2 : ByteArray) (n2 : Int) (c2 : Nat) : liesF B w (.mk k2 a2 b2 n2 [.mk k a b n xs, .mk k' a' b' n' xs']) (.agg #[.int .i64 k2, .string a2, .string b2, .int .i64 n2, .slice (some ⟨g, 0, none⟩) 2 c2]) :=
  lies_of2 ((cutW_block hB).trans hg) h h' k2 a2 b2 n2 c2
end Go.Proofs.YtelepamnlpebgaaDoor
