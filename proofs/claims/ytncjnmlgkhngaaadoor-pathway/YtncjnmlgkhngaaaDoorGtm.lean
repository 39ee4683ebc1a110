/- Order and Reach, each by one contract; rows of edges; slices.Contains at ints; what the laws ask of two errors' numbers. -/
import Derived.Test.YtncjnmlgkhngaaaDoorGor
namespace Go.Proofs.YtncjnmlgkhngaaaDoor
open Go.RowKit Gm
set_option linter.unusedSectionVars false

theorem trn_len (l : List Ed) : (trn l).length = l.length := by simp [trn]
theorem trn_get {l : List Ed} {j : Nat} (hj : j < l.length) : ed (trn l) j = ⟨(ed l j).t, (ed l j).f⟩ := by
  rw [ed_get (by rw [trn_len]; exact hj), ed_get hj]
  simp [trn]
theorem chk_trn (n : Int) (l : List Ed) : chk n (trn l) = chk n l := by
  have e : okE n (trn l) = okE n l := by
    unfold okE trn
    rw [List.all_map]
    congr 1
    funext e
    simp only [okI, Function.comp, decide_eq_decide]
    constructor <;> (rintro ⟨a, b, c, d⟩; exact ⟨c, d, a, b⟩)
  unfold chk
  rw [e, trn_len]
/-- The error's number that Order tells. -/
def oe (n : Int) (l : List Ed) : Int := if chk n l = 0 then (if 0 < (bl (fun i => wB l i i) 60).length then 8 else 0) else chk n l
/-- The error's number that Reach tells, and the row. -/
def re (n : Int) (l : List Ed) (i : Int) : Int := if chk n l = 0 then (if 0 ≤ i ∧ i < n then 0 else 4) else chk n l
def rl (n : Int) (l : List Ed) (i : Int) : List Nat := if chk n l = 0 ∧ 0 ≤ i ∧ i < n then bl (wB l i.toNat) 60 else []
theorem oe_trn (n : Int) (l : List Ed) : oe n (trn l) = oe n l := by
  unfold oe
  rw [chk_trn]
  by_cases h : chk n l = 0
  · have h' : chk n (trn l) = 0 := by rw [chk_trn]; exact h
    rw [if_pos h, if_pos h]
    have e : 0 < (bl (fun i => wB (trn l) i i) 60).length ↔ 0 < (bl (fun i => wB l i i) 60).length := by
      rw [← knot_cyc h', ← knot_cyc h]
      constructor
      · rintro ⟨i, hi⟩; exact ⟨i, rch_trn_iff.1 hi⟩
      · rintro ⟨i, hi⟩; exact ⟨i, rch_trn_iff.2 hi⟩
    by_cases g : 0 < (bl (fun i => wB l i i) 60).length
    · rw [if_pos g, if_pos (e.2 g)]
    · rw [if_neg g, if_neg (fun x => g (e.1 x))]
  · rw [if_neg h, if_neg h]
theorem rl_len (n : Int) (l : List Ed) (i : Int) : (rl n l i).length ≤ 60 := by
  unfold rl
  split
  · exact bl_len _ _
  · simp
/-- Who comes behind, with the edges turned round. -/
theorem rl_trn {n : Int} {l : List Ed} {i k : Int} (h1 : re n l i = 0) (h2 : re n (trn l) k = 0) : (∃ j ∈ rl n l i, (j : Int) = k) ↔ ∃ j ∈ rl n (trn l) k, (j : Int) = i := by
  have h0 : chk n l = 0 := by
    unfold re at h1
    split at h1
    · assumption
    · exact absurd h1 (by assumption)
  have h0' : chk n (trn l) = 0 := by rw [chk_trn]; exact h0
  have hi : 0 ≤ i ∧ i < n := by
    unfold re at h1
    rw [if_pos h0] at h1
    split at h1
    · assumption
    · cases h1
  have hk : 0 ≤ k ∧ k < n := by
    unfold re at h2
    rw [if_pos h0'] at h2
    split at h2
    · assumption
    · cases h2
  obtain ⟨I, rfl⟩ : ∃ I : Nat, i = I := ⟨i.toNat, by omega⟩
  obtain ⟨K, rfl⟩ : ∃ K : Nat, k = K := ⟨k.toNat, by omega⟩
  have hn := (chk_ok h0).2.1
  have hg := chk_gr h0
  have hg' := chk_gr h0'
  unfold rl
  rw [if_pos ⟨h0, hi⟩, if_pos ⟨h0', hk⟩, Int.toNat_natCast, Int.toNat_natCast]
  constructor
  · rintro ⟨j, hj, e⟩
    obtain rfl : j = K := by omega
    refine ⟨I, mem_bl.2 ⟨by omega, (wB_iff hg').2 (rch_trn_iff.2 ((wB_iff hg).1 (mem_bl.1 hj).2))⟩, rfl⟩
  · rintro ⟨j, hj, e⟩
    obtain rfl : j = I := by omega
    refine ⟨K, mem_bl.2 ⟨by omega, (wB_iff hg).2 (rch_trn_iff.1 ((wB_iff hg').1 (mem_bl.1 hj).2))⟩, rfl⟩

theorem order_e {n : Int} {w : World} {q : Option Addr} {l : List Ed} {cap : Nat} (h : Eds w q l) (hZ : TabZ w) :
    Calls Tryd.prog 9 #[.int .i64 n, .slice q l.length cap] w fun e w' => ∃ (p : Option Addr) (k c : Nat), e = .returned (.tuple #[.slice p k c, .int .i64 (oe n l)]) ∧ Below w.heap.size w w' := by
  by_cases h0 : chk n l = 0
  · obtain ⟨hn0, _, _, _⟩ := chk_ok h0
    obtain ⟨N, rfl⟩ : ∃ N : Nat, n = N := ⟨n.toNat, by omega⟩
    by_cases hcy : ∃ i, Rch (eB l) i i
    · refine (order_no h hZ h0 hcy).mono ?_
      rintro e w' ⟨rfl, hb⟩
      exact ⟨none, 0, 0, by rw [oe, if_pos h0, if_pos ((knot_cyc h0).1 hcy)], hb⟩
    · refine (order_yes h hZ h0 (fun i hi => hcy ⟨i, hi⟩)).mono ?_
      rintro e w' ⟨R, p, c, rfl, _, hb⟩
      exact ⟨p, N, c, by rw [oe, if_pos h0, if_neg (fun x => hcy ((knot_cyc h0).2 x))], hb⟩
  · refine (order_bad h h0).mono ?_
    rintro e w' ⟨rfl, hb⟩
    exact ⟨none, 0, 0, by rw [oe, if_neg h0], hb⟩
theorem reach_e {n i : Int} {w : World} {q : Option Addr} {l : List Ed} {cap : Nat} (h : Eds w q l) (hZ : TabZ w) :
    Calls Tryd.prog 11 #[.int .i64 n, .slice q l.length cap, .int .i64 i] w fun e w' => ∃ (p : Option Addr) (c : Nat), e = .returned (.tuple #[.slice p (rl n l i).length c, .int .i64 (re n l i)]) ∧ w'.ownsRow w.heap.size 3 1 (.slice p (rl n l i).length c) (rl n l i).length (ints (rl n l i)) ∧ Below w.heap.size w w' := by
  by_cases h0 : chk n l = 0
  · by_cases hi : 0 ≤ i ∧ i < n
    · obtain ⟨I, rfl⟩ : ∃ I : Nat, i = I := ⟨i.toNat, by omega⟩
      refine (reach_ok h hZ h0 hi.2).mono ?_
      rintro e w' ⟨p, c, rfl, hr, hb⟩
      have e1 : rl n l I = bl (wB l I) 60 := by rw [rl, if_pos ⟨h0, hi⟩, Int.toNat_natCast]
      have e2 : re n l I = 0 := by rw [re, if_pos h0, if_pos hi]
      rw [e1, e2]
      exact ⟨p, c, rfl, hr, hb⟩
    · refine (reach_out h h0 (by omega)).mono ?_
      rintro e w' ⟨rfl, hb⟩
      have e1 : rl n l i = [] := by rw [rl, if_neg (fun x => hi x.2)]
      have e2 : re n l i = 4 := by rw [re, if_pos h0, if_neg hi]
      rw [e1, e2]
      exact ⟨none, 0, rfl, World.ownsRow_nil _ _ _ _, hb⟩
  · refine (reach_bad h h0).mono ?_
    rintro e w' ⟨rfl, hb⟩
    have e1 : rl n l i = [] := by rw [rl, if_neg (fun x => h0 x.1)]
    have e2 : re n l i = chk n l := by rw [re, if_neg h0]
    rw [e1, e2]
    exact ⟨none, 0, rfl, World.ownsRow_nil _ _ _ _, hb⟩

def flatE (l : List Ed) : List Value := l.flatMap fun x => [.int .i64 x.f, .int .i64 x.t]
theorem flatE_len (l : List Ed) : (flatE l).length = l.length * 2 := by
  induction l with
  | nil => rfl
  | cons x r ih => simp [flatE] at ih ⊢; omega
theorem flatE_snoc (l : List Ed) (x : Ed) : flatE (l ++ [x]) = flatE l ++ [.int .i64 x.f, .int .i64 x.t] := by simp [flatE]
theorem flatE_get {l : List Ed} {j : Nat} (hj : j < l.length) : (flatE l)[j * 2]? = some (.int .i64 (ed l j).f) ∧ (flatE l)[j * 2 + 1]? = some (.int .i64 (ed l j).t) := by
  induction l generalizing j with
  | nil => cases hj
  | cons x r ih =>
    cases j with
    | zero => exact ⟨rfl, rfl⟩
    | succ j =>
      have := ih (j := j) (by simpa using hj)
      have e : flatE (x :: r) = .int .i64 x.f :: .int .i64 x.t :: flatE r := rfl
      rw [e, show (j + 1) * 2 = j * 2 + 1 + 1 by omega]
      simpa [ed] using this
/-- A row of edges of one's own is a slice of edges. -/
theorem eds_row {w : World} {B : Nat} {p : Option Addr} {n c : Nat} {m : List Ed} (h : w.ownsRow B 41 2 (.slice p n c) n (flatE m)) (hn : m.length = n) : Eds w p m := by
  rcases h.2 with ⟨_, h0⟩ | ⟨g, cap, cur, hv, hB, hg, _⟩
  · exact Or.inl (by omega)
  · obtain ⟨rfl, rfl⟩ : p = some ⟨g, 0, none⟩ ∧ c = cap := by simpa using hv
    refine Or.inr ⟨g, 0, rfl, (Array.getElem?_eq_some_iff.1 hg).1, fun j hj => ?_, fun j hj => ?_⟩
    · rw [Nat.zero_add, h.cellAt (j * 2) (by omega), (flatE_get hj).1]
    · rw [Nat.zero_add, h.cellAt (j * 2 + 1) (by omega), (flatE_get hj).2]
theorem info_edge : (Tryd.prog.info? 41).map (fun i => (i.zero, i.size, i.bytes)) = some (some (.agg #[.int .i64 0, .int .i64 0]), 2, 16) := by kernel_rfl

set_option maxRecDepth 100000 in
theorem index_i {w : World} {B : Nat} {p : Option Addr} {L : List Nat} {n c : Nat} (v : Int) (hL : L.length = n) (hn : n ≤ 100000) (h : w.ownsRow B 3 1 (.slice p n c) n (ints L)) :
    Calls Tryd.prog 58 #[.slice p n c, .int .i64 v] w fun e w' => (∃ z : Int, e = .returned (.int .i64 z) ∧ (0 ≤ z ↔ ∃ j ∈ L, (j : Int) = v)) ∧ w' = w := by
  go_enter Tryd.func58, Tryd.ntmps58
  go_wp2
  go_loopw [8] (fun iv wr => ∃ k : Nat, iv = .int .i64 k ∧ k ≤ n ∧ wr = w ∧ ∀ j, j < k → ((bn L j : Nat) : Int) ≠ v)
    (fun iv _ => n - (intOf iv).toNat)
  case atStart => exact ⟨0, rfl, Nat.zero_le _, rfl, fun j hj => absurd hj (by omega)⟩
  case round =>
    obtain ⟨k, rfl, hkn, rfl, hno⟩ := hrel
    have hnoH : Hid (∀ j, j < k → ((bn L j : Nat) : Int) ≠ v) := hno
    have hLH : Hid (L.length = n) := hL
    clear hno
    by_cases hk : k < n
    · obtain ⟨g, rfl, c1, _⟩ := row_at h hL hk
      have hki : (k : Int) < (n : Int) := by omega
      have hmem : Hid (bn L k ∈ L) := by show _ ∈ _; rw [bn_get (by omega)]; exact List.getElem_mem _
      have hk2 : Hid (k ≤ 100000) := by show _ ≤ _; omega
      generalize hx : bn L k = x at *
      have hxH : Hid (bn L k = x) := hx
      clear h hL hx
      by_cases hv : v = (x : Int)
      · subst hv
        go_wp2
        go_ret
        exact ⟨⟨_, rfl, fun _ => ⟨x, hmem.out, rfl⟩, fun _ => by omega⟩, rfl⟩
      · go_wp2
        refine ⟨⟨k + 1, ?_, hk, by first | rfl | trivial, fun j hj => ?_⟩, ?_⟩
        · first | exact int_succ k | exact int_wsucc hk2.out
        · by_cases e : j = k
          · subst e; rw [hxH.out]; exact fun e => hv e.symm
          · exact hnoH.out j (by omega)
        · first | exact meas_1 hk | exact meas_w hk hk2.out
    · have hki : ¬ (k : Int) < (n : Int) := by omega
      clear h hL
      go_wp2
      go_ret
      refine ⟨⟨_, rfl, fun h => absurd h (by omega), ?_⟩, rfl⟩
      rintro ⟨j, hj, e⟩
      obtain ⟨a, ha, ea⟩ := List.getElem_of_mem hj
      have := hnoH.out a (by have := hLH.out; omega)
      rw [bn_get ha, ea] at this
      exact absurd e this

theorem contains_i {w : World} {B : Nat} {p : Option Addr} {L : List Nat} {n c : Nat} (v : Int) (hL : L.length = n) (hn : n ≤ 100000) (h : w.ownsRow B 3 1 (.slice p n c) n (ints L)) :
    Calls Tryd.prog 35 #[.slice p n c, .int .i64 v] w fun e w' => (∃ z : Bool, e = .returned (.bool z) ∧ (z = true ↔ ∃ j ∈ L, (j : Int) = v)) ∧ w' = w := by
  have hi := index_i v hL hn h
  clear h hL hn
  go_enter Tryd.func35, Tryd.ntmps35
  go_wp2_with (go_at_call 58; refine hi.mono ?_; rintro e w' ⟨⟨z, rfl, hz⟩, rfl⟩; have hzH : Hid (0 ≤ z ↔ ∃ j ∈ L, (j : Int) = v) := hz; clear hz)
  go_ret
  exact ⟨⟨_, rfl, by rw [← hzH.out]; simp⟩, rfl⟩

theorem good1_0 (w : World) : Calls Tryd.prog 60 #[.int .i64 0] w fun e w' => e = .returned (.bool false) ∧ w' = w := by
  go_enter Tryd.func60, Tryd.ntmps60
  go_wp2
  go_ret
  exact ⟨rfl, rfl⟩
theorem good1_1 {x : Int} (hx : x ≠ 0) (w : World) : Calls Tryd.prog 60 #[.int .i64 x] w fun e w' => e = .returned (.bool true) ∧ w' = w := by
  have hx' : (x == 0) = false := by simpa using hx
  have hx2 : (x != 0) = true := by simpa using hx
  go_enter Tryd.func60, Tryd.ntmps60
  go_wp2
  go_ret
  exact ⟨rfl, rfl⟩

set_option maxRecDepth 100000 in
theorem indexf2 (b : Nat) (x y : Int) (w : World) (h0 : w.cell? ⟨b, 0, none⟩ = some (.int .i64 x)) (h1 : w.cell? ⟨b, 1, none⟩ = some (.int .i64 y)) :
    Calls Tryd.prog 66 #[.slice (some ⟨b, 0, none⟩) 2 2, .func (.func 60) #[] #[]] w fun e w' => (∃ z : Int, e = .returned (.int .i64 z) ∧ (0 ≤ z ↔ ¬ (x = 0 ∧ y = 0))) ∧ w' = w := by
  by_cases hx : x = 0
  · have hg := good1_0 w
    by_cases hy : y = 0
    · subst hx hy
      go_enter Tryd.func66, Tryd.ntmps66
      go_wp2
      refine wp_loop_rounds 4 ?_
      rw [rounds_succ]
      go_wp2_with (go_at_call 60; refine hg.mono ?_; rintro e w' ⟨rfl, rfl⟩)
      rw [rounds_succ]
      go_wp2_with (go_at_call 60; refine hg.mono ?_; rintro e w' ⟨rfl, rfl⟩)
      rw [rounds_succ]
      go_wp2
      go_ret
      exact ⟨⟨_, rfl, by simp⟩, rfl⟩
    · have hg2 := good1_1 hy w
      have hyH : Hid (y ≠ 0) := hy
      subst hx
      clear hy
      go_enter Tryd.func66, Tryd.ntmps66
      go_wp2
      refine wp_loop_rounds 4 ?_
      rw [rounds_succ]
      go_wp2_with (go_at_call 60; refine hg.mono ?_; rintro e w' ⟨rfl, rfl⟩)
      clear hg
      rw [rounds_succ]
      go_wp2_with (go_at_call 60; refine hg2.mono ?_; rintro e w' ⟨rfl, rfl⟩)
      go_ret
      exact ⟨⟨_, rfl, by simp [hyH.out]⟩, rfl⟩
  · have hg := good1_1 hx w
    have hxH : Hid (x ≠ 0) := hx
    clear hx
    go_enter Tryd.func66, Tryd.ntmps66
    go_wp2
    refine wp_loop_rounds 4 ?_
    rw [rounds_succ]
    go_wp2_with (go_at_call 60; refine hg.mono ?_; rintro e w' ⟨rfl, rfl⟩)
    go_ret
    exact ⟨⟨_, rfl, by simp [hxH.out]⟩, rfl⟩

theorem good2 (b : Nat) (x y : Int) (w : World) (h0 : w.cell? ⟨b, 0, none⟩ = some (.int .i64 x)) (h1 : w.cell? ⟨b, 1, none⟩ = some (.int .i64 y)) :
    Calls Tryd.prog 36 #[.slice (some ⟨b, 0, none⟩) 2 2] w fun e w' => e = .returned (.bool (decide (x = 0 ∧ y = 0))) ∧ w' = w := by
  have hc : Calls Tryd.prog 59 #[.slice (some ⟨b, 0, none⟩) 2 2, .func (.func 60) #[] #[]] w fun e w' => e = .returned (.bool (!decide (x = 0 ∧ y = 0))) ∧ w' = w := by
    have hi := indexf2 b x y w h0 h1
    clear h0 h1
    go_enter Tryd.func59, Tryd.ntmps59
    go_wp2_with (go_at_call 66; refine hi.mono ?_; rintro e w' ⟨⟨z, rfl, hz⟩, rfl⟩; have hzH : Hid (0 ≤ z ↔ ¬ (x = 0 ∧ y = 0)) := hz; clear hz)
    go_ret
    refine ⟨ret_b ?_, rfl⟩
    rw [← decide_not]
    exact decide_eq_decide.2 hzH.out
  clear h0 h1
  generalize decide (x = 0 ∧ y = 0) = gb at *
  go_enter Tryd.func36, Tryd.ntmps36
  go_wp2_with (go_at_call 59; refine hc.mono ?_; rintro e w' ⟨rfl, rfl⟩)
  go_ret
  exact ⟨ret_b (by simp), rfl⟩
end Go.Proofs.YtncjnmlgkhngaaaDoor
