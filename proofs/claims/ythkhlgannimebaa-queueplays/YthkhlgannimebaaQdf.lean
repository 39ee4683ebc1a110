/- slices.IndexFunc and slices.DeleteFunc at rows of items, with a closure that asks for a name, walked. -/
import Derived.Test.YthkhlgannimebaaQr5
import Derived.Test.YthkhlgannimebaaQrm
namespace Go.Proofs.Ythkhlgannimebaa
open Go.RowKit Go.Maps Go.Sort Qum Qrm
set_option linter.unusedSectionVars false

/-- The closure: it has the name in the block cb. -/
theorem of_any (cb : Nat) (p i id : Int) (w : World) (hc : w.cell? ⟨cb, 0, none⟩ = some (.int .i64 id)) :
    Calls Try.prog 21 #[.agg #[.int .i64 p, .int .i64 i], .pointer (some ⟨cb, 0, none⟩)] w fun e w' => e = .returned (.bool (i == id)) ∧ Below w.heap.size w w' := by
  have hca := cell_alloc hc (.cells #[.int .i64 p, .int .i64 i] 30)
  have hb : Hid (Below w.heap.size w (w.alloc (.cells #[.int .i64 p, .int .i64 i] 30))) := (Below.refl _ _).alloc (Nat.le_refl _) _
  clear hc
  go_enter Try.func21, Try.ntmps21
  go_wp2
  go_ret
  exact ⟨rfl, hb.out⟩

set_option maxHeartbeats 1000000 in
set_option maxRecDepth 100000 in
theorem indexf_any {w : World} {F : List Th} {n cap cb d : Nat} {p : Option Addr} {id : Int} (hF : F.length = n) (h : Rrow w (.slice p n cap) n (flatI F)) (hlen : n ≤ 1000) (hc : w.cell? ⟨cb, 0, none⟩ = some (.int .i64 id)) (hd : IsAt F id d) :
    Calls Try.prog 22 #[.slice p n cap, .func (.func 21) #[] #[.pointer (some ⟨cb, 0, none⟩)]] w fun e w' => e = .returned (.int .i64 (d : Int)) ∧ Below w.heap.size w w' := by
  subst hF
  have hlen' : Hid (F.length ≤ 1000) := hlen
  have hdH : Hid (IsAt F id d) := hd
  obtain ⟨g, rfl, _⟩ := h.at_ (by have := hd.1; omega)
  have hcl : Hid (∀ wr, Below w.heap.size w wr → wr.cell? ⟨cb, 0, none⟩ = some (.int .i64 id)) := fun wr hb => (hb.cell (p := ⟨cb, 0, none⟩) (World.block_lt_of_cell? w _ hc)).trans hc
  clear hlen hc hd
  go_enter Try.func22, Try.ntmps22
  go_wp2
  go_loopw [8] (fun iv wr => ∃ j : Nat, iv = .int .i64 j ∧ j ≤ d ∧ Below w.heap.size w wr)
    (fun iv _ => F.length - (intOf iv).toNat)
  case atStart => exact ⟨0, rfl, Nat.zero_le _, Below.refl _ _⟩
  case round =>
    obtain ⟨j, rfl, hjl, hbl⟩ := hrel
    have hj : j < F.length := by have := hdH.out.1; omega
    have hji : (j : Int) < (F.length : Int) := by omega
    have hj2 : Hid (j ≤ 100000) := by have := hlen'.out; show _ ≤ _; omega
    obtain ⟨z0, z1⟩ := (h.below hbl).items hj
    have hof := of_any cb (th F j).p (th F j).i id wr (hcl.out wr hbl)
    by_cases e : j = d
    · have hid : (th F j).i = id := by rw [e]; exact hdH.out.2.1
      have hxi : ((th F j).i == id) = true := by simp [hid]
      rw [hxi] at hof
      subst e
      generalize th F j = x at *
      clear h hxi hid hcl
      go_wp2_with (go_at_call 21; refine hof.mono ?_; rintro e w2 ⟨rfl, hb2⟩)
      go_ret
      exact ⟨rfl, hbl.trans (hb2.mono hbl.size)⟩
    · have hid : (th F j).i ≠ id := hdH.out.2.2 j (by omega)
      have hxi : ((th F j).i == id) = false := by simpa using hid
      rw [hxi] at hof
      have hjd : Hid (j + 1 ≤ d) := by show _ ≤ _; omega
      generalize th F j = x at *
      clear h hxi hid hcl e hjl
      go_wp2_with (go_at_call 21; refine hof.mono ?_; rintro e w2 ⟨rfl, hb2⟩)
      refine ⟨⟨j + 1, ?_, hjd.out, hbl.trans (hb2.mono hbl.size)⟩, ?_⟩
      · first | exact int_succ j | exact int_wsucc hj2.out
      · first | exact meas_1 hj | exact meas_w hj hj2.out

/-- The one at d is taken out as far as i: those behind it have come one place ahead. -/
def sh (F : List Th) (d i : Nat) : List Th := (F.eraseIdx d).take i ++ F.drop i
theorem sh_len {F : List Th} {d i : Nat} (hd : d < F.length) (hi : i < F.length) : (sh F d i).length = F.length := by
  have := List.length_eraseIdx_of_lt hd
  simp [sh]
  omega
theorem sh_start {F : List Th} {d : Nat} (hd : d < F.length) : sh F d d = F := by
  have e : (F.eraseIdx d).take d = F.take d := by
    rw [List.eraseIdx_eq_take_drop_succ, List.take_append_of_le_length (by simp; omega), List.take_take, Nat.min_self]
  simp [sh, e]
theorem sh_get {F : List Th} {d i t : Nat} (hd : d < F.length) (hi : i < F.length) (ht : t < F.length) (h : i ≤ t) : th (sh F d i) t = th F t := by
  have hl := List.length_eraseIdx_of_lt hd
  rw [th_get (by rw [sh_len hd hi]; exact ht), th_get ht]
  have e1 : ((F.eraseIdx d).take i).length = i := by simp; omega
  unfold sh
  rw [List.getElem_append_right (by omega), List.getElem_drop]
  congr 1
  omega
theorem sh_step {F : List Th} {d i : Nat} (hd : d ≤ i) (hi : i + 1 < F.length) : (sh F d i).set i (th F (i + 1)) = sh F d (i + 1) := by
  have hl := List.length_eraseIdx_of_lt (show d < F.length by omega)
  have e1 : ((F.eraseIdx d).take i).length = i := by simp; omega
  unfold sh
  rw [List.set_append_right (h := Nat.le_of_eq e1), e1, Nat.sub_self]
  have e2 : F.drop i = F[i] :: F.drop (i + 1) := (List.getElem_cons_drop (by omega)).symm
  rw [e2, List.set_cons_zero]
  have e3 : (F.eraseIdx d).take (i + 1) = (F.eraseIdx d).take i ++ [th F (i + 1)] := by
    have h1 : i < (F.eraseIdx d).length := by omega
    have h2 : th F (i + 1) = (F.eraseIdx d)[i] := by rw [List.getElem_eraseIdx, dif_neg (by omega), th_get hi]
    rw [h2, List.take_append_getElem]
  rw [e3]
  simp
theorem sh_end {F : List Th} {d : Nat} (hd : d < F.length) : (sh F d (F.length - 1)).take (F.length - 1) = F.eraseIdx d := by
  have hl := List.length_eraseIdx_of_lt hd
  unfold sh
  rw [List.take_append_of_le_length (by simp; omega), List.take_take, Nat.min_self, List.take_of_length_le (by omega)]
theorem flatI_set {L : List Th} {i : Nat} (hi : i < L.length) (x : Th) : flatI (L.set i x) = ((flatI L).set (i * 2) (.int .i64 x.p)).set (i * 2 + 1) (.int .i64 x.i) := by
  induction L generalizing i with
  | nil => cases hi
  | cons y r ih =>
    have ef : flatI (y :: r) = .int .i64 y.p :: .int .i64 y.i :: flatI r := rfl
    cases i with
    | zero => rfl
    | succ i =>
      have e2 : flatI (y :: r.set i x) = .int .i64 y.p :: .int .i64 y.i :: flatI (r.set i x) := rfl
      rw [List.set_cons_succ, e2, ih (by simpa using hi), ef, show (i + 1) * 2 = i * 2 + 1 + 1 by omega]
      rfl
theorem flatI_take (L : List Th) (n : Nat) : flatI (L.take n) = (flatI L).take (n * 2) := by
  induction L generalizing n with
  | nil => simp [flatI]
  | cons y r ih =>
    have ef : flatI (y :: r) = .int .i64 y.p :: .int .i64 y.i :: flatI r := rfl
    cases n with
    | zero => simp [flatI]
    | succ n =>
      have e2 : flatI (y :: r.take n) = .int .i64 y.p :: .int .i64 y.i :: flatI (r.take n) := rfl
      rw [List.take_succ_cons, e2, ih, ef, show (n + 1) * 2 = n * 2 + 1 + 1 by omega]
      rfl

theorem Rrow.store {w : World} {g n cap j : Nat} {xs : List Value} (h : Rrow w (.slice (some ⟨g, 0, none⟩) n cap) n xs) (u : Value) : Rrow (w.setCell ⟨g, j, none⟩ u) (.slice (some ⟨g, 0, none⟩) n cap) n (xs.set j u) := by
  refine ⟨by simpa using h.1, ?_⟩
  rcases h.2 with ⟨h0, _⟩ | ⟨g', cap', cur, hv, hg, h1, h2, h3, h4⟩
  · simp at h0
  · obtain ⟨rfl, rfl⟩ : g = g' ∧ cap = cap' := by simpa using hv
    refine Or.inr ⟨g, cap, _, rfl, heap_setCell_same w g j _ _ _ hg, h1, h2, by simpa using h3, ?_⟩
    simp only [Array.toList_setIfInBounds]
    rw [List.take_set, h4]
theorem Rrow.frz {w : World} {g n cap : Nat} {xs : List Value} (h : Rrow w (.slice (some ⟨g, 0, none⟩) n cap) n xs) (j : Nat) : w.frozen? ⟨g, j, none⟩ = false := by
  rcases h.2 with ⟨h0, _⟩ | ⟨g', cap', cur, hv, hg, _⟩
  · simp at h0
  · obtain ⟨rfl, rfl⟩ : g = g' ∧ cap = cap' := by simpa using hv
    simp [World.frozen?, hg]
theorem Rrow.shorter {w : World} {g n m cap : Nat} {xs : List Value} (h : Rrow w (.slice (some ⟨g, 0, none⟩) n cap) n xs) (hm : m ≤ n) : Rrow w (.slice (some ⟨g, 0, none⟩) m cap) m (xs.take (m * 2)) := by
  refine ⟨by simp [h.1]; omega, ?_⟩
  rcases h.2 with ⟨h0, _⟩ | ⟨g', cap', cur, hv, hg, h1, h2, h3, h4⟩
  · simp at h0
  · obtain ⟨rfl, rfl⟩ : g = g' ∧ cap = cap' := by simpa using hv
    exact Or.inr ⟨g, cap, cur, rfl, hg, by omega, h2, h3, by rw [← h4, List.take_take]; congr 1; omega⟩

/-- clear at one item. -/
theorem run_clear_one {w : World} {g j c : Nat} (h0 : (w.cell? ⟨g, j, none⟩).isSome = true) (h1 : (w.cell? ⟨g, j + 1, none⟩).isSome = true) (f0 : w.frozen? ⟨g, j, none⟩ = false) (f1 : w.frozen? ⟨g, j + 1, none⟩ = false) (ty : TypeId) :
    (Builtin.clear_ #[22] ty #[.slice (some ⟨g, j, none⟩) 1 c]).run Try.prog w = .ok (.tuple #[]) ((w.setCell ⟨g, j, none⟩ (.int .i64 0)).setCell ⟨g, j + 1, none⟩ (.int .i64 0)) := by
  have hz : (zeroValue 30).run Try.prog w = .ok (.agg #[.int .i64 0, .int .i64 0]) w := by kernel_rfl
  have hzc : (Builtin.zeroCells (Value.agg #[.int .i64 0, .int .i64 0]).cells 1).toList = [.int .i64 0, .int .i64 0] := by kernel_rfl
  have hst := run_storeCells_cells (P := Try.prog) g j [.int .i64 0, .int .i64 0] 0 w (fun k hk => by
    rcases (show k = 0 ∨ k = 1 by simp at hk; omega) with rfl | rfl
    · simpa using h0
    · simpa using h1) (fun k hk => by
    rcases (show k = 0 ∨ k = 1 by simp at hk; omega) with rfl | rfl
    · simpa using f0
    · simpa using f1) (by simp [Value.oneCell'])
  simp only [Nat.add_zero] at hst
  have hs2 : w.setCells g j [.int .i64 0, .int .i64 0] = (w.setCell ⟨g, j, none⟩ (.int .i64 0)).setCell ⟨g, j + 1, none⟩ (.int .i64 0) := rfl
  simp [Builtin.clear_, run_underlying Try.underlying22, hz, hzc, hst, hs2]

/-- Of what was there nothing has turned but the block g. -/
structure Kg (g : Nat) (w w' : World) : Prop where
  os : w'.os = w.os
  tape : w'.tape = w.tape
  output : w'.output = w.output
  size : w.heap.size ≤ w'.heap.size
  block : ∀ k, k < w.heap.size → k ≠ g → w'.heap[k]? = w.heap[k]?
theorem Kg.refl (g : Nat) (w : World) : Kg g w w := ⟨rfl, rfl, rfl, Nat.le_refl _, fun _ _ _ => rfl⟩
theorem Kg.trans {g : Nat} {a b c : World} (h : Kg g a b) (k : Kg g b c) : Kg g a c := ⟨k.os.trans h.os, k.tape.trans h.tape, k.output.trans h.output, Nat.le_trans h.size k.size, fun i hi h1 => (k.block i (Nat.lt_of_lt_of_le hi h.size) h1).trans (h.block i hi h1)⟩
theorem Kg.of_below {g : Nat} {w w' : World} (h : Below w.heap.size w w') : Kg g w w' := ⟨h.os, h.tape, h.output, h.size, fun k hk _ => h.block k hk⟩
theorem Kg.set (g j : Nat) (w : World) (u : Value) : Kg g w (w.setCell ⟨g, j, none⟩ u) := ⟨rfl, rfl, rfl, by simp [World.setCell], fun k _ h => Below.heap_setCell w _ u k h⟩
theorem Kg.below {g B : Nat} {w0 w w' : World} (h : Kg g w w') (hb : Below B w0 w) (h1 : B ≤ g) (h2 : B ≤ w.heap.size) : Below B w0 w' :=
  ⟨h.os.trans hb.os, h.tape.trans hb.tape, h.output.trans hb.output, Nat.le_trans hb.size h.size, fun k hk => (h.block k (by omega) (by omega)).trans (hb.block k hk)⟩
theorem Kg.cell {g : Nat} {w w' : World} {a : Addr} {v : Value} (h : Kg g w w') (hc : w.cell? a = some v) (hne : a.block ≠ g) : w'.cell? a = some v :=
  (World.cell?_of_block (w := w) (h.block a.block (World.block_lt_of_cell? w a hc) hne)).trans hc

set_option maxHeartbeats 2000000 in
set_option maxRecDepth 100000 in
theorem delf_any {w : World} {F : List Th} {n cap cb d g : Nat} {id : Int} (hF : F.length = n) (h : Rrow w (.slice (some ⟨g, 0, none⟩) n cap) n (flatI F)) (hlen : n ≤ 1000) (hc : w.cell? ⟨cb, 0, none⟩ = some (.int .i64 id)) (hcg : cb ≠ g) (hd : IsAt F id d) (hids : F.Pairwise fun x y => x.i ≠ y.i) :
    Calls Try.prog 23 #[.slice (some ⟨g, 0, none⟩) n cap, .func (.func 21) #[] #[.pointer (some ⟨cb, 0, none⟩)]] w fun e w' => e = .returned (.slice (some ⟨g, 0, none⟩) (n - 1) cap) ∧ Rrow w' (.slice (some ⟨g, 0, none⟩) (n - 1) cap) (n - 1) (flatI (F.eraseIdx d)) ∧ Kg g w w' := by
  have hix := indexf_any hF h hlen hc hd
  subst hF
  have hlen' : Hid (F.length ≤ 1000) := hlen
  have hdH : Hid (IsAt F id d) := hd
  have hdi : ¬ ((d : Int) = -1) := by omega
  have hne : Hid (∀ t, t < F.length → d < t → (th F t).i ≠ id) := fun t ht hdt e => by
    rw [List.pairwise_iff_getElem] at hids
    have := hids d t hd.1 ht hdt
    rw [← th_get hd.1, ← th_get ht, hd.2.1, e] at this
    exact this rfl
  have hdl : Hid (d < F.length) := hd.1
  have hcap : Hid (F.length ≤ cap) := by
    obtain ⟨g', _, h1⟩ := h.at_ (by have := hd.1; omega)
    exact h1
  have hwd : IntKind.i64.wrap ((d : Int) + 1) = ((d + 1 : Nat) : Int) := by have := hd.1; rw [IntKind.wrap_i64]; omega
  clear hlen hd hids
  go_enter Try.func23, Try.ntmps23
  go_wp2_with (go_at_call 22; refine hix.mono ?_; rintro e w1 ⟨rfl, hb1⟩; clear hix)
  have hK1 : Hid (Kg g w w1) := Kg.of_below hb1
  have hr1 : Hid (Rrow w1 (.slice (some ⟨g, 0, none⟩) F.length cap) F.length (flatI (sh F d d))) := by rw [sh_start hdl.out]; exact h.below hb1
  clear h hb1 hwd hdi
  go_loopw [5, 6] (fun iv jv wr => ∃ i : Nat, iv = .int .i64 i ∧ jv = .int .i64 ((i + 1 : Nat) : Int) ∧ d ≤ i ∧ i < F.length ∧ Rrow wr (.slice (some ⟨g, 0, none⟩) F.length cap) F.length (flatI (sh F d i)) ∧ Kg g w wr)
    (fun iv _ _ => F.length - (intOf iv).toNat)
  case atStart => exact ⟨d, rfl, by first | rfl | simp, Nat.le_refl _, hdl.out, hr1.out, hK1.out⟩
  case round =>
    clear hr1 hK1
    obtain ⟨i, rfl, rfl, hdi, hil, hr, hK⟩ := hrel
    have hlenS : Hid ((sh F d i).length = F.length) := sh_len hdl.out hil
    have hr' : Rrow wr (.slice (some ⟨g, 0, none⟩) (sh F d i).length cap) (sh F d i).length (flatI (sh F d i)) := by rw [hlenS.out]; exact hr
    by_cases hj : i + 1 < F.length
    · have hji : ((i + 1 : Nat) : Int) < (F.length : Int) := by omega
      have hii : (i : Int) < (F.length : Int) := by omega
      obtain ⟨z0, z1⟩ := hr'.items (j := i + 1) (by rw [hlenS.out]; exact hj)
      rw [sh_get hdl.out hil hj (by omega)] at z0 z1
      have hxi : ((th F (i + 1)).i == id) = false := by simpa using hne.out (i + 1) hj (by omega)
      have hof := of_any cb (th F (i + 1)).p (th F (i + 1)).i id (wr.alloc (.cells #[.int .i64 (th F (i + 1)).p, .int .i64 (th F (i + 1)).i] 30)) (cell_alloc (hK.cell hc hcg) _)
      rw [hxi] at hof
      have hst : Hid ((sh F d i).set i (th F (i + 1)) = sh F d (i + 1)) := sh_step hdi hj
      have hfl : Hid (flatI ((sh F d i).set i (th F (i + 1))) = ((flatI (sh F d i)).set (i * 2) (.int .i64 (th F (i + 1)).p)).set (i * 2 + 1) (.int .i64 (th F (i + 1)).i)) := flatI_set (by rw [hlenS.out]; exact hil) _
      have hrH : Hid (Rrow wr (.slice (some ⟨g, 0, none⟩) F.length cap) F.length (flatI (sh F d i))) := hr
      have hKH : Hid (Kg g w wr) := hK
      have hjH : Hid (i + 1 < F.length) := hj
      generalize th F (i + 1) = x at *
      have hAl : Hid (Below wr.heap.size wr (wr.alloc (.cells #[.int .i64 x.p, .int .i64 x.i] 30))) := (Below.refl _ _).alloc (Nat.le_refl _) _
      have hn := heap_alloc_new wr (.cells #[.int .i64 x.p, .int .i64 x.i] 30)
      have a0 : (wr.alloc (.cells #[.int .i64 x.p, .int .i64 x.i] 30)).cell? ⟨wr.heap.size, 0, none⟩ = some (.int .i64 x.p) := (cell_of_row _ _ 0 _ _ _ hn).trans rfl
      have a1 : (wr.alloc (.cells #[.int .i64 x.p, .int .i64 x.i] 30)).cell? ⟨wr.heap.size, 1, none⟩ = some (.int .i64 x.i) := (cell_of_row _ _ 1 _ _ _ hn).trans rfl
      have hgl : Hid (g < wr.heap.size) := hr.lt g rfl
      clear hxi hr hr' hK hne hn
      go_wp2_with (go_at_call 21; refine hof.mono ?_; rintro e w2 ⟨rfl, hb2⟩; have q0 := (hb2.cell (p := ⟨wr.heap.size, 0, none⟩) (by simp)).trans a0; have q1 := (hb2.cell (p := ⟨wr.heap.size, 1, none⟩) (by simp)).trans a1; have hb3 : Below wr.heap.size wr w2 := hAl.out.trans (hb2.mono (by simp)); have hr2 := hrH.out.below hb3; have f0 := hr2.frz (i * 2); have f1 := hr2.frz (i * 2 + 1); obtain ⟨y0, hy0⟩ : ∃ u, w2.cell? ⟨g, i * 2, none⟩ = some u := ⟨_, (hr2.cells (j := i * 2) (by have := hjH.out; omega)).trans (List.getElem?_eq_getElem (by rw [flatI_len, hlenS.out]; have := hjH.out; omega))⟩; obtain ⟨y1, hy1⟩ : ∃ u, w2.cell? ⟨g, i * 2 + 1, none⟩ = some u := ⟨_, (hr2.cells (j := i * 2 + 1) (by have := hjH.out; omega)).trans (List.getElem?_eq_getElem (by rw [flatI_len, hlenS.out]; have := hjH.out; omega))⟩; have hr2H : Hid (Rrow w2 (.slice (some ⟨g, 0, none⟩) F.length cap) F.length (flatI (sh F d i))) := hr2; have hb3H : Hid (Below wr.heap.size wr w2) := hb3; clear hof a0 a1 hb2 hb3 hr2)
      go_roundw
      case rel =>
        refine ⟨_, _, _, _, _, _, _, _, _, _, _, _, _, _, _, _, _, _, _, _, _, _, _, ⟨i + 1, ?_, ?_, by omega, hjH.out, ?_, ?_⟩, rfl⟩
        · have := hlen'.out
          first | exact int_succ i | exact int_wsucc (by omega)
        · have := hlen'.out
          first | exact int_succ (i + 1) | exact int_wsucc (i := i + 1) (by omega)
        · rw [← hst.out, hfl.out]
          exact (hr2H.out.store _).store _
        · exact ((hKH.out.trans (Kg.of_below hb3H.out)).trans (Kg.set _ _ _ _)).trans (Kg.set _ _ _ _)
      case measure =>
        have := hlen'.out
        first | exact meas_1 hil | exact meas_w hil (by omega)
    · have hji : ¬ ((i + 1 : Nat) : Int) < (F.length : Int) := by omega
      have hiE : i = F.length - 1 := by omega
      have hiL : Hid (i + 1 = F.length) := by show _ = _; omega
      have hii : (i : Int) ≤ (F.length : Int) := by omega
      have hic : (i : Int) ≤ (cap : Int) := by have := hcap.out; omega
      have h1c : Hid (cap ≠ i) := by have := hcap.out; show _ ≠ _; omega
      have hA1 : (if cap = i then some (⟨g, 0, none⟩ : Addr) else some ⟨g, i * 2, none⟩) = some ⟨g, i * 2, none⟩ := if_neg h1c.out
      have hsub : F.length - i = 1 := by omega
      have hrH : Hid (Rrow wr (.slice (some ⟨g, 0, none⟩) F.length cap) F.length (flatI (sh F d i))) := hr
      have hKH : Hid (Kg g w wr) := hK
      have f0 : Hid (wr.frozen? ⟨g, i * 2, none⟩ = false) := hr.frz _
      have f1 : Hid (wr.frozen? ⟨g, i * 2 + 1, none⟩ = false) := hr.frz _
      have y0 : Hid ((wr.cell? ⟨g, i * 2, none⟩).isSome = true) := by
        show _ = true
        rw [hr.cells (j := i * 2) (by omega), List.getElem?_eq_getElem (by rw [flatI_len, hlenS.out]; omega)]; rfl
      have y1 : Hid ((wr.cell? ⟨g, i * 2 + 1, none⟩).isSome = true) := by
        show _ = true
        rw [hr.cells (j := i * 2 + 1) (by omega), List.getElem?_eq_getElem (by rw [flatI_len, hlenS.out]; omega)]; rfl
      have hiEH : Hid (i = F.length - 1) := hiE
      clear hr hr' hK hne hiE hc
      have hcl := fun ty => run_clear_one (c := cap - i) y0.out y1.out f0.out f1.out ty
      go_wp2
      go_ret
      have hrz := ((hrH.out.store (j := i * 2) (.int .i64 0)).store (j := i * 2 + 1) (.int .i64 0)).shorter (m := i) (by omega)
      have hfz : flatI (F.eraseIdx d) = List.take (i * 2) (((flatI (sh F d i)).set (i * 2) (.int .i64 0)).set (i * 2 + 1) (.int .i64 0)) := by
        have he : (sh F d i).take i = F.eraseIdx d := by rw [hiEH.out]; exact sh_end hdl.out
        rw [← he, flatI_take, List.take_set_of_le (by omega), List.take_set_of_le (by omega)]
      have e1 : F.length - 1 = i := hiEH.out.symm
      refine ⟨?_, ?_, (hKH.out.trans (Kg.set _ _ _ _)).trans (Kg.set _ _ _ _)⟩
      · rw [e1]; rfl
      · rw [e1, hfz]; exact hrz
end Go.Proofs.Ythkhlgannimebaa
