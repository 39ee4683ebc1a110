/- What all the texts about numbers lean on: numbers that lie somewhere, rows of numbers of one's own, an append of one. -/
import Derived.Test.YtfnkboegbclnaaaChecked
import Derived.Test.YtfnkboegbclnaaaTkc
import Derived.ProofKit
import Derived.Deep.QuietTactic
import Derived.BigQuiet
import Derived.WalkKit
import Derived.WalkSpells
import Derived.WalkLawsBesides
import Derived.StillTailTactics
import Derived.Laws.Rows
import Derived.Laws.OwnMore
import Derived.Maps.AppendAt
import Derived.BigCall
namespace Go.Proofs.Ytfnkboegbclnaaa
open Go.RowKit
set_option linter.unusedSectionVars false
set_option linter.unusedVariables false

theorem wrap_succ {i : Nat} (h : i ≤ 100000) : wrap64 ((i : Int) + 1) = ((i + 1 : Nat) : Int) := by unfold wrap64; omega
theorem meas_w {n i : Nat} (hi : i < n) (h : i ≤ 100000) : n - (intOf (.int .i64 (wrap64 ((i : Int) + 1)))).toNat < n - (intOf (.int .i64 (i : Int))).toNat := by
  rw [wrap_succ h]
  simp [intOf]
  omega
theorem meas_1 {n i : Nat} (hi : i < n) : n - (intOf (.int .i64 ((i : Int) + 1))).toNat < n - (intOf (.int .i64 (i : Int))).toNat := by
  simp [intOf]
  omega
theorem int_succ (i : Nat) : Value.int .i64 ((i : Int) + 1) = .int .i64 ((i + 1 : Nat) : Int) := by simp
theorem int_wsucc {i : Nat} (h : i ≤ 100000) : Value.int .i64 (wrap64 ((i : Int) + 1)) = .int .i64 ((i + 1 : Nat) : Int) := by rw [wrap_succ h]
theorem ret_i {a b : Int} (h : a = b) : Ending.returned (.int .i64 a) = .returned (.int .i64 b) := by rw [h]
theorem ret_b {a b : Bool} (h : a = b) : Ending.returned (.bool a) = .returned (.bool b) := by rw [h]
theorem info_parts {t : TypeId} {z : Option Value} {n b : Nat} (h : (Try.prog.info? t).map (fun i => (i.zero, i.size, i.bytes)) = some (z, n, b)) : ∃ i, Try.prog.info? t = some i ∧ i.zero = z ∧ i.size = n ∧ i.bytes = b := by
  cases hi : Try.prog.info? t with
  | none => rw [hi] at h; cases h
  | some i => rw [hi] at h; simp at h; exact ⟨i, rfl, h.1, h.2.1, h.2.2⟩
theorem cells_new (w : World) (cs : List Value) (t : TypeId) : ∀ j u, cs[j]? = some u → (w.alloc (.cells cs.toArray t)).cell? ((⟨w.heap.size, 0, none⟩ : Addr).add j) = some u := by
  intro j u hu
  rw [Addr.add_lit, Nat.zero_add, cell_of_row _ _ _ _ _ _ (heap_alloc_new w (.cells cs.toArray t))]
  simpa using hu
theorem form_succ {w : World} {B : Nat} {e : TypeId} {k : Nat} {v : Value} {n : Nat} {xs : List Value} (h : w.ownsRow B e k v (n + 1) xs) : ∃ g cap, v = .slice (some ⟨g, 0, none⟩) (n + 1) cap := by
  rcases h.2 with ⟨_, h0⟩ | ⟨g, cap, cur, hv, _⟩
  · omega
  · exact ⟨g, cap, hv⟩
theorem own_form {w : World} {B : Nat} {e : TypeId} {k : Nat} {v : Value} {n : Nat} {xs : List Value} (h : w.ownsRow B e k v n xs) : ∃ p c, v = .slice p n c := by
  rcases h.2 with ⟨rfl, rfl⟩ | ⟨g, cap, cur, rfl, _⟩
  · exact ⟨none, 0, rfl⟩
  · exact ⟨_, cap, rfl⟩
theorem cell_alloc {w : World} {a : Addr} {v : Value} (h : w.cell? a = some v) (o : Obj) : (w.alloc o).cell? a = some v := (World.grownBy_alloc w o none).cell h (by simp)
theorem row_below {w w' : World} {B : Nat} {e : TypeId} {size : Nat} {v : Value} {n : Nat} {xs : List Value} (h : w.ownsRow B e size v n xs) (hK : Below w.heap.size w w') : w'.ownsRow B e size v n xs :=
  h.kept (w' := w') (row := none) ⟨hK.os, hK.tape, hK.output, hK.size, fun k hk _ => hK.block k hk⟩ (by cases hv : v.ownBlock <;> simp)
theorem owns_store {w : World} {B g n cap j : Nat} {e : TypeId} {xs : List Value} (h : w.ownsRow B e 1 (.slice (some ⟨g, 0, none⟩) n cap) n xs) (u : Value) : (w.setCell ⟨g, j, none⟩ u).ownsRow B e 1 (.slice (some ⟨g, 0, none⟩) n cap) n (xs.set j u) := by
  refine ⟨by simpa using h.1, ?_⟩
  rcases h.2 with ⟨h0, _⟩ | ⟨g', cap', cur, hv, hB, hg, h1, h2, h3, h4⟩
  · simp at h0
  · obtain ⟨rfl, rfl⟩ : g = g' ∧ cap = cap' := by simpa using hv
    refine Or.inr ⟨g, cap, _, rfl, hB, heap_setCell_same w g j _ _ _ hg, h1, h2, by simpa using h3, ?_⟩
    simp only [Array.toList_setIfInBounds]
    rw [List.take_set, h4]
theorem owns_frz {w : World} {B g n cap : Nat} {e : TypeId} {k : Nat} {xs : List Value} (h : w.ownsRow B e k (.slice (some ⟨g, 0, none⟩) n cap) n xs) (j : Nat) : w.frozen? ⟨g, j, none⟩ = false := by
  rcases h.2 with ⟨h0, _⟩ | ⟨g', cap', cur, hv, hB, hg, _⟩
  · simp at h0
  · obtain ⟨rfl, rfl⟩ : g = g' ∧ cap = cap' := by simpa using hv
    simp [World.frozen?, hg]
theorem owns_set_other {w : World} {B : Nat} {e : TypeId} {k : Nat} {v : Value} {n : Nat} {xs : List Value} (h : w.ownsRow B e k v n xs) (a : Addr) (u : Value) (hne : ∀ g, v.ownBlock = some g → g ≠ a.block) : (w.setCell a u).ownsRow B e k v n xs :=
  h.kept (w' := w.setCell a u) (row := some a.block) ⟨rfl, rfl, rfl, by simp [World.setCell], fun k _ hk => Below.heap_setCell w a u k (fun e => hk (by rw [e]))⟩ (by
    cases hv : v.ownBlock with
    | none => exact Or.inl rfl
    | some g => right; intro e; cases e; exact hne _ hv rfl)

/-! ### Numbers that lie somewhere -/
def nm (d : List Int) (i : Nat) : Int := d.getD i 0
theorem nm_get {d : List Int} {k : Nat} (hk : k < d.length) : nm d k = d[k] := by simp [nm, hk]
theorem nm_mem {d : List Int} {k : Nat} (hk : k < d.length) : nm d k ∈ d := by rw [nm_get hk]; exact List.getElem_mem hk
structure NumAt (w : World) (b o : Nat) (d : List Int) : Prop where
  lt : b < w.heap.size
  c : ∀ j, j < d.length → w.cell? ⟨b, o + j, none⟩ = some (.int .i64 (nm d j))
def Nums (w : World) (q : Option Addr) (d : List Int) : Prop := d.length = 0 ∨ ∃ b o, q = some ⟨b, o, none⟩ ∧ NumAt w b o d
theorem NumAt.below {w w' : World} {b o : Nat} {d : List Int} {B : Nat} (h : NumAt w b o d) (hb : Below B w w') (hB : b < B) : NumAt w' b o d :=
  ⟨Nat.lt_of_lt_of_le h.lt hb.size, fun j hj => (hb.cell (p := ⟨b, o + j, none⟩) hB).trans (h.c j hj)⟩
theorem Nums.below {w w' : World} {q : Option Addr} {d : List Int} (h : Nums w q d) {B : Nat} (hb : Below B w w') (hB : w.heap.size ≤ B) : Nums w' q d := by
  rcases h with h0 | ⟨b, o, e, hA⟩
  · exact Or.inl h0
  · exact Or.inr ⟨b, o, e, hA.below hb (Nat.lt_of_lt_of_le hA.lt hB)⟩
theorem take_nm {d : List Int} {j : Nat} (hj : j < d.length) : d.take (j + 1) = d.take j ++ [nm d j] := by
  rw [nm_get hj, List.take_append_getElem]

/-! ### Rows of numbers of one's own -/
def fp (E : Nat → Int) (j : Nat) (v : Int) : Nat → Int := fun k => if k = j then v else E k
theorem fp_same (E : Nat → Int) (j : Nat) (v : Int) : fp E j v j = v := by simp [fp]
theorem fp_ne {E : Nat → Int} {j k : Nat} {v : Int} (h : k ≠ j) : fp E j v k = E k := by simp [fp, h]
def numf (E : Nat → Int) (n : Nat) : List Value := (List.range n).map fun (j : Nat) => .int .i64 (E j)
theorem numf_len (E : Nat → Int) (n : Nat) : (numf E n).length = n := by simp [numf]
theorem numf_get {E : Nat → Int} {n j : Nat} (h : j < n) : (numf E n)[j]? = some (.int .i64 (E j)) := by simp [numf, h]
theorem numf_congr {E E' : Nat → Int} {n : Nat} (h : ∀ j, j < n → E j = E' j) : numf E n = numf E' n := by
  unfold numf
  refine List.map_congr_left fun j hj => ?_
  rw [h j (by simpa using hj)]
theorem numf_zero (N : Nat) : numf (fun _ => 0) N = List.replicate N (.int .i64 0) := by
  apply List.ext_getElem?
  intro k
  by_cases hk : k < N
  · rw [numf_get hk]; simp [hk]
  · rw [List.getElem?_eq_none (by rw [numf_len]; omega), List.getElem?_eq_none (by simp; omega)]
theorem numf_set {E : Nat → Int} {n j : Nat} {v : Int} : (numf E n).set j (.int .i64 v) = numf (fp E j v) n := by
  apply List.ext_getElem?
  intro k
  rw [List.getElem?_set]
  by_cases hk : k < n
  · rw [numf_get hk, numf_get hk, numf_len]
    by_cases e : j = k
    · subst e; simp [hk, fp]
    · rw [if_neg e, fp_ne (fun x => e x.symm)]
  · rw [List.getElem?_eq_none (by rw [numf_len]; omega), List.getElem?_eq_none (by rw [numf_len]; omega)]
    simp [numf_len]
    omega
theorem numf_snoc (E : Nat → Int) (n : Nat) : numf E (n + 1) = numf E n ++ [.int .i64 (E n)] := by
  unfold numf
  rw [List.range_succ, List.map_append]
  rfl
theorem row_num {w : World} {B : Nat} {t : TypeId} {p : Option Addr} {E : Nat → Int} {n c : Nat} (h : w.ownsRow B t 1 (.slice p n c) n (numf E n)) {k : Nat} (hk : k < n) : ∃ g, p = some ⟨g, 0, none⟩ ∧ w.cell? ⟨g, k, none⟩ = some (.int .i64 (E k)) ∧ B ≤ g := by
  rcases h.2 with ⟨_, h0⟩ | ⟨g, cap, cur, hv, hB, _⟩
  · omega
  · obtain ⟨rfl, rfl⟩ : p = some ⟨g, 0, none⟩ ∧ c = cap := by simpa using hv
    exact ⟨g, rfl, by rw [h.cellAt k (by omega), numf_get hk], hB⟩
theorem nums_row {w : World} {B : Nat} {t : TypeId} {p : Option Addr} {E : Nat → Int} {n c : Nat} (h : w.ownsRow B t 1 (.slice p n c) n (numf E n)) : Nums w p ((List.range n).map E) := by
  by_cases e : n = 0
  · left; simp [e]
  · right
    obtain ⟨g, rfl, _, hB⟩ := row_num h (k := 0) (by omega)
    refine ⟨g, 0, rfl, (h.lt g rfl).2, fun j hj => ?_⟩
    have hj' : j < n := by simpa using hj
    obtain ⟨g', e', h1, _⟩ := row_num h hj'
    cases e'
    rw [Nat.zero_add, h1]
    simp [nm, hj']
theorem info_i64 : (Try.prog.info? 2).map (fun i => (i.zero, i.size, i.bytes)) = some (some (.int .i64 0), 1, 8) := by kernel_rfl
theorem info_int : (Try.prog.info? 3).map (fun i => (i.zero, i.size, i.bytes)) = some (some (.int .i64 0), 1, 8) := by kernel_rfl

/-- An append of one number, as an operation. -/
theorem step_app64 {w : World} {o : Oper} {a : Act} {Q : Exit → Act → World → Prop} {K : Act → World → Prop} {base : Nat} (s x : Operand) (hop : o.op = Op.call { callee := Callee.builtin Builtin.append, args := #[s, x], argTypes := #[22, 22] })
    {p : Option Addr} {m c : Nat} {xs : List Value} {u : Value} {ad : Addr} (hown : w.ownsRow base 2 1 (.slice p m c) m xs) (hs : a.eval s = .slice p m c) (hx : a.eval x = .slice (some ad) 1 1 ∧ u.oneCell' = true) (hnews : ∀ j y, [u][j]? = some y → w.cell? (ad.add j) = some y) (hm : m ≤ 1000) (hbase : base ≤ w.heap.size)
    (h : ∀ g' c' w', w'.ownsRow base 2 1 (.slice (some ⟨g', 0, none⟩) (m + 1) c') (m + 1) (xs ++ [u]) → w.grownBy w' (Value.ownBlock (.slice p m c)) → (some g' = Value.ownBlock (.slice p m c) ∨ some g' = some w.heap.size) → K (a.put o.dst (.slice (some ⟨g', 0, none⟩) (m + 1) c')) w') : o.wp Try.prog a w K Q := by
  obtain ⟨i0, hi, hz0, hz1, hz2⟩ := info_parts info_i64
  obtain ⟨v', w', hr, h2, h3, h4, h5⟩ := run_append_own_at (P := Try.prog) w base 22 o.type 2 i0 (.int .i64 0) 1 8 Try.underlying22 hi hz0 hz1 hz2 rfl (by decide) _ _ xs hown ad 1 1 [u] rfl hnews (fun y hy => by simp at hy; subst hy; exact hx.2) (by unfold maxLen; omega) (by omega) hbase
  obtain ⟨g', c', rfl⟩ := form_succ h2
  unfold Oper.wp execOp
  simp only [hop, resolve, invoke, builtin, Sem.run_bind, Sem.run_pure, Result.andThen_ok, List.map_toArray, List.map_cons, List.map_nil, hs, hx.1, hr]
  exact h g' c' w' h2 h3 h5
end Go.Proofs.Ytfnkboegbclnaaa
