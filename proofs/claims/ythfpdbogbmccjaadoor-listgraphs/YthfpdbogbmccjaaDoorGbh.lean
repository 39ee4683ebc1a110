/- The reference's Behind: the row of what comes behind one. -/
import Derived.Test.YthfpdbogbmccjaaDoorGbm
import Derived.Test.YthfpdbogbmccjaaDoorGor
import Derived.Test.YthfpdbogbmccjaaDoorGdl
import Derived.ArgAppend
namespace Go.Proofs.YthfpdbogbmccjaaDoor
open Go.RowKit Gm
set_option linter.unusedSectionVars false
set_option linter.unusedVariables false

theorem info_bool : (Tryd.prog.info? 4).map (fun i => (i.zero, i.size, i.bytes)) = some (some (.bool false), 1, 1) := by kernel_rfl
/-- A row of bools. -/
def bls (S : Nat → Bool) (N : Nat) : List Value := (List.range N).map fun j => .bool (S j)
theorem bls_len (S : Nat → Bool) (N : Nat) : (bls S N).length = N := by simp [bls]
theorem bls_get {S : Nat → Bool} {N j : Nat} (h : j < N) : (bls S N)[j]? = some (.bool (S j)) := by simp [bls, h]
theorem bls_zero (N : Nat) : bls (fun _ => false) N = List.replicate N (.bool false) := by
  apply List.ext_getElem?
  intro k
  by_cases hk : k < N
  · rw [bls_get hk]; simp [hk]
  · rw [List.getElem?_eq_none (by rw [bls_len]; omega), List.getElem?_eq_none (by simp; omega)]
theorem bls_set {S : Nat → Bool} {N t : Nat} (ht : t < N) : (bls S N).set t (.bool true) = bls (fun j => S j || decide (j = t)) N := by
  apply List.ext_getElem?
  intro k
  rw [List.getElem?_set]
  by_cases hk : k < N
  · rw [bls_get hk, bls_get hk, bls_len]
    by_cases e : t = k
    · subst e; simp [hk]
    · have : decide (k = t) = false := decide_eq_false (fun x => e x.symm)
      simp [e, this]
  · rw [List.getElem?_eq_none (by rw [bls_len]; omega), List.getElem?_eq_none (by rw [bls_len]; omega)]
    simp [bls_len]
    omega
/-- A queue of things lies in a row of one's own, from a place on. -/
structure Qs (w : World) (B b off cap : Nat) (Q : List Nat) : Prop where
  lo : B ≤ b
  le : Q.length ≤ cap
  ex : ∃ cur : Array Value, w.heap[b]? = some (.cells cur 3) ∧ off + cap ≤ cur.size ∧ ∀ (j x : Nat), Q[j]? = some x → cur[off + j]? = some (.int .i64 (x : Int))
theorem Qs.cell {w : World} {B b off cap : Nat} {Q : List Nat} (h : Qs w B b off cap Q) {j x : Nat} (hx : Q[j]? = some x) : w.cell? ⟨b, off + j, none⟩ = some (.int .i64 (x : Int)) := by
  obtain ⟨cur, hh, _, hc⟩ := h.ex
  rw [cell_of_row _ _ _ _ _ _ hh, hc j x hx]
theorem Qs.of_owns {w : World} {B : Nat} {v : Value} {n : Nat} {Q : List Nat} (h : w.ownsRow B 3 1 v n (ints Q)) (hn : 0 < n) (hl : Q.length = n) : ∃ b cap, v = .slice (some ⟨b, 0, none⟩) n cap ∧ Qs w B b 0 cap Q := by
  rcases h.2 with ⟨_, h0⟩ | ⟨g, cap, cur, rfl, hB, hg, h1, h2, h3, h4⟩
  · omega
  · refine ⟨g, cap, rfl, hB, by omega, cur, hg, by omega, fun j x hx => ?_⟩
    have hj : j < Q.length := (List.getElem?_eq_some_iff.1 hx).1
    rw [Nat.zero_add, ← Array.getElem?_toList]
    have : (cur.toList.take (n * 1))[j]? = (ints Q)[j]? := by rw [h4]
    rw [List.getElem?_take_of_lt (by omega)] at this
    rw [this]
    simp [ints, hx]
theorem Qs.kept {w w' : World} {B b off cap : Nat} {Q : List Nat} (h : Qs w B b off cap Q) (hk : w'.heap[b]? = w.heap[b]?) : Qs w' B b off cap Q := by
  obtain ⟨cur, hh, h2⟩ := h.ex
  exact ⟨h.lo, h.le, cur, hk.trans hh, h2⟩
theorem Qs.lt {w : World} {B b off cap : Nat} {Q : List Nat} (h : Qs w B b off cap Q) : b < w.heap.size := by
  obtain ⟨cur, hh, _⟩ := h.ex
  exact (Array.getElem?_eq_some_iff.1 hh).1

theorem row_keep {W W' : World} {B g n c k : Nat} {e : TypeId} {xs : List Value} (h : W.ownsRow B e k (.slice (some ⟨g, 0, none⟩) n c) n xs) (hb : Below (g + 1) W W') : W'.ownsRow B e k (.slice (some ⟨g, 0, none⟩) n c) n xs := by
  rcases h.2 with ⟨h0, _⟩ | ⟨g', c', cur, hv, hB, hg, hr⟩
  · simp at h0
  · obtain ⟨rfl, rfl⟩ : g = g' ∧ c = c' := by simpa using hv
    exact ⟨h.1, Or.inr ⟨g, c, cur, rfl, hB, (hb.block g (by omega)).trans hg, hr⟩⟩
theorem wpList_append_qs {W : World} {ops : Array Oper} {rest : List Oper} {o : Oper} {a : Act} {R : Exit → Act → World → Prop} (hg : o.guard = none)
    (s x : Operand) (hop : o.op = Op.call { callee := Callee.builtin Builtin.append, args := #[s, x], argTypes := #[47, 47] })
    {gb b off c m tt : Nat} {L : List Nat} {ad : Addr} (hQ : Qs W (gb + 1) b off c L) (hm : L.length = m) (hs : a.eval s = .slice (some ⟨b, off, none⟩) m c) (hx : a.eval x = .slice (some ad) 1 1) (hc : W.cell? (ad.add 0) = some (.int .i64 (tt : Int))) (hb : m ≤ 1000)
    (hK : ∀ b' off' c' W', Qs W' (gb + 1) b' off' c' (L ++ [tt]) → Below (gb + 1) W W' → wpList Tryd.prog ops R rest (a.put o.dst (.slice (some ⟨b', off', none⟩) (m + 1) c')) W') :
    wpList Tryd.prog ops R (o :: rest) a W := by
  obtain ⟨i0, hi, hz0, hz1, hz2⟩ := info_parts info_int
  obtain ⟨cur, hh, hsz, hcell⟩ := hQ.ex
  have hle := hQ.le
  refine wpList_append_arg W hg s x 47 hop 3 i0 (.int .i64 0) 1 8 Tryd.underlying47 hi hz0 hz1 hz2 rfl (by decide) b off m c (ints L) hs (by simp [ints, hm]) (fun j u hu => ?_) ad 1 1 [.int .i64 (tt : Int)] hx rfl (fun j u hu => ?_) (fun u hu => by simp at hu; subst hu; rfl) (fun hr j hj => ?_) (by unfold maxLen; omega) (by omega) (fun hr => ?_) (fun hr v' w' ho hgw => ?_)
  · simp only [ints, List.getElem?_map, Option.map_eq_some_iff] at hu
    obtain ⟨y, hy, rfl⟩ := hu
    exact hQ.cell hy
  · cases j with
    | zero => simp at hu; subst hu; exact hc
    | succ j => simp at hu
  · have : j = 0 := by simpa using hj
    subst this
    have hlt : off + m * 1 + 0 < cur.size := by omega
    refine ⟨?_, by simp [World.frozen?, hh]⟩
    rw [cell_of_row _ _ _ _ _ _ hh, Array.getElem?_eq_getElem hlt]
    rfl
  · refine hK b off c _ ⟨hQ.lo, by simp; omega, _, heap_setCells_lay b _ [.int .i64 (tt : Int)] (off + m * 1) W cur hh, by rw [layC_size]; exact hsz, fun j y hy => ?_⟩ (below_cells hQ.lo _ _ W)
    have hj : j < (L ++ [tt]).length := (List.getElem?_eq_some_iff.1 hy).1
    simp at hj
    rw [layC_get _ _ _ _ (by omega)]
    by_cases e : j = m
    · subst e
      rw [List.getElem?_append_right (by omega), hm, Nat.sub_self] at hy
      simp at hy
      subst hy
      rw [if_pos (by simp)]
      simp
    · rw [if_neg (by simp; omega)]
      rw [List.getElem?_append_left (by omega)] at hy
      exact hcell j y hy
  · have hlt := hQ.lt
    have hlo := hQ.lo
    obtain ⟨b', c', rfl, hq'⟩ := Qs.of_owns (Q := L ++ [tt]) (n := m + 1) (by simpa [ints] using ho) (by omega) (by simp [hm])
    refine hK b' 0 c' w' ⟨by have := hq'.lo; omega, hq'.le, hq'.ex⟩ ⟨hgw.os, hgw.tape, hgw.output, hgw.size, fun k hk => hgw.block k (by omega) (by simp)⟩
/-- How many cells of a row say no. -/
def noC (w : World) (g n : Nat) : Nat := (bl (fun j => match w.cell? ⟨g, j, none⟩ with | some (.bool false) => true | _ => false) n).length
def lenV : Value → Nat
  | .slice _ n _ => n
  | _ => 0
theorem bl_congr {p q : Nat → Bool} {n : Nat} (h : ∀ j, j < n → p j = q j) : bl p n = bl q n := by
  unfold bl
  exact List.filter_congr fun j hj => h j (by simpa using hj)
theorem noC_bls {w : World} {B g n : Nat} {S : Nat → Bool} (h : w.ownsRow B 4 1 (.slice (some ⟨g, 0, none⟩) n n) n (bls S n)) : noC w g n = uns S n := by
  unfold noC uns
  rw [bl_congr]
  intro j hj
  rw [h.cellAt j (by omega), bls_get hj]
  cases S j <;> rfl
theorem Qs.tail {w : World} {B b off cap i : Nat} {Q : List Nat} (h : Qs w B b off cap (i :: Q)) : ∃ o', (if cap = 1 then some (⟨b, off, none⟩ : Addr) else some ⟨b, off + 1, none⟩) = some ⟨b, o', none⟩ ∧ Qs w B b o' (cap - 1) Q := by
  obtain ⟨cur, hh, hs, hc⟩ := h.ex
  have hl := h.le
  simp only [List.length_cons] at hl
  by_cases e : cap = 1
  · have hQ : Q = [] := List.length_eq_zero_iff.1 (by omega)
    subst hQ
    exact ⟨off, by simp [e], h.lo, by simp, cur, hh, by omega, fun j x hx => by simp at hx⟩
  · exact ⟨off + 1, by simp [e], h.lo, by omega, cur, hh, by omega, fun j x hx => by rw [show off + 1 + j = off + (j + 1) by omega]; exact hc (j + 1) x (by simpa using hx)⟩

set_option maxHeartbeats 2000000 in
set_option maxRecDepth 100000 in
theorem behind_e {n : Nat} {w : World} {q : Option Addr} {l : List Ed} {cap fr : Nat} (h : Eds w q l) (hg : Gr n l) (hl : l.length ≤ 400) (hfr : fr < n) :
    Calls Tryd.prog 28 #[.int .i64 (n : Int), .slice q l.length cap, .int .i64 (fr : Int)] w fun e w' => e = .returned (.slice (some ⟨w.heap.size, 0, none⟩) n n) ∧ w'.ownsRow w.heap.size 4 1 (.slice (some ⟨w.heap.size, 0, none⟩) n n) n (bls (wB l fr) n) ∧ Below w.heap.size w w' := by
  have hgH : Hid (Gr n l) := hg
  have hlH : Hid (l.length ≤ 400) := hl
  have hnH : Hid (n ≤ 60) := hg.n60
  have hfrH : Hid (fr < n) := hfr
  have hE : Hid (∀ w1, Below w.heap.size w w1 → Eds w1 q l) := fun w1 hb => h.below hb (Nat.le_refl _)
  clear h hg hl hfr
  go_enter Tryd.func28, Tryd.ntmps28
  go_wp2_with (first
    | (at_make; obtain ⟨i0, hi, hz0, hz1, hz2⟩ := info_parts info_bool; refine wpList_make_full _ rfl _ _ 65 rfl w.heap.size 4 i0 (.bool false) 1 Tryd.underlying65 hi hz0 hz1 _ _ _ _ n rfl rfl rfl rfl (by rw [hz2]; have := hnH.out; omega) (by unfold maxLen; have := hnH.out; omega) (Nat.le_refl _) ?_; intro w1 hown1 hgrow1; clear hi hz0 hz1 hz2)
    | go_in)
  have hat1 : w1.ownsRow w.heap.size 4 1 (.slice (some ⟨w.heap.size, 0, none⟩) n n) n (bls (fun _ => false) n) := by
    have e : (madeCells (Value.bool false).cells (n * 1)).toList = bls (fun _ => false) n := by
      rw [bls_zero, Nat.mul_one]
      exact toList_madeCells_one _ _
    rw [← e]; exact hown1
  have hB1 : Below w.heap.size w w1 := ⟨hgrow1.os, hgrow1.tape, hgrow1.output, hgrow1.size, fun k hk => hgrow1.block k hk (by simp)⟩
  have hgl : w.heap.size < w1.heap.size := by have := (hat1.lt _ rfl).2; exact this
  have hq1 : Qs (w1.alloc (.cells #[.int .i64 (fr : Int)] 3)) (w.heap.size + 1) w1.heap.size 0 1 [fr] := ⟨hgl, by simp, _, heap_alloc_new w1 _, by simp, fun j x hx => by
    cases j with
    | zero => simp at hx; subst hx; rfl
    | succ j => simp at hx⟩
  have hat2 := hat1.alloc (.cells #[.int .i64 (fr : Int)] 3)
  have hB2 : Below w.heap.size w (w1.alloc (.cells #[.int .i64 (fr : Int)] 3)) := hB1.alloc hB1.size _
  clear hown1 hgrow1 hat1 hB1
  generalize w1.alloc (.cells #[.int .i64 (fr : Int)] 3) = w2 at *
  generalize hgb : w.heap.size = gb at *
  have hgbH : Hid (w.heap.size = gb) := hgb
  clear hgb
  go_loopw [8] (fun tv wr => ∃ (b off c : Nat) (Q : List Nat) (S : Nat → Bool), tv = .slice (some ⟨b, off, none⟩) Q.length c ∧ Qs wr (gb + 1) b off c Q ∧ wr.ownsRow gb 4 1 (.slice (some ⟨gb, 0, none⟩) n n) n (bls S n) ∧ Bh l n fr S Q ∧ uns S n + Q.length ≤ n + 1 ∧ Below gb w wr)
    (fun tv wr => noC wr gb n + lenV tv)
  case atStart => exact ⟨w1.heap.size, 0, 1, [fr], _, rfl, hq1, hat2, Bh.start hfrH.out, by have := uns_le (fun _ => false) n; simp; omega, hB2⟩
  case round =>
    clear hq1 hat2 hB2
    obtain ⟨b, off, c, Q, S, rfl, hQ, hS, hbh, hcnt, hbl⟩ := hrel
    cases Q with
    | nil =>
      have hfS : Hid (bls S n = bls (wB l fr) n) := congrArg (fun s => bls s n) (funext fun j => hbh.finish hgH.out j)
      have hSH : Hid (wr.ownsRow gb 4 1 (.slice (some ⟨gb, 0, none⟩) n n) n (bls S n)) := hS
      have hblH : Hid (Below gb w wr) := hbl
      have hz : ([] : List Nat).length = 0 := rfl
      rw [hz]
      clear hbh hcnt hbl hQ hS
      go_wp2
      go_ret
      rw [hgbH.out]
      exact ⟨rfl, hfS.out ▸ hSH.out, hblH.out⟩
    | cons i Q =>
      have hbhH : Hid (Bh l n fr S (i :: Q)) := hbh
      have hcntH : Hid (uns S n + (i :: Q).length ≤ n + 1) := hcnt
      have hblH : Hid (Below gb w wr) := hbl
      have x0 : wr.cell? ⟨b, off, none⟩ = some (.int .i64 (i : Int)) := hQ.cell (j := 0) rfl
      obtain ⟨o', ho', hQ'⟩ := hQ.tail
      have hQH : Hid (Qs wr (gb + 1) b o' (c - 1) Q) := hQ'
      have hSH : Hid (wr.ownsRow gb 4 1 (.slice (some ⟨gb, 0, none⟩) n n) n (bls S n)) := hS
      have hln : (i :: Q).length = Q.length + 1 := rfl
      have hle := hQ.le
      rw [hln] at hle ⊢
      have hi1 : (0 : Int) < (Q.length : Int) + 1 := by omega
      have hi2 : (1 : Int) ≤ (Q.length : Int) + 1 := by omega
      clear hbh hcnt hbl hQ hQ' hS hln
      have hno : Hid (noC wr gb n = uns S n) := noC_bls hSH.out
      go_wp2
      go_loopw [8, 26] (fun tv iv wk => ∃ (k b off c : Nat), iv = .int .i64 k ∧ tv = .slice (some ⟨b, off, none⟩) (bfo i (S, Q) (l.take k)).2.length c ∧ k ≤ l.length ∧ Qs wk (gb + 1) b off c (bfo i (S, Q) (l.take k)).2 ∧ wk.ownsRow gb 4 1 (.slice (some ⟨gb, 0, none⟩) n n) n (bls (bfo i (S, Q) (l.take k)).1 n) ∧ Below gb w wk)
        (fun _ iv _ => l.length - (intOf iv).toNat)
      case atStart => exact ⟨0, b, o', c - 1, rfl, rfl, Nat.zero_le _, hQH.out, hSH.out, hblH.out⟩
      case round =>
        clear hQH hSH hblH x0
        obtain ⟨k, b2, off2, c2, rfl, rfl, hkl, hQ2, hS2, hbl2⟩ := hrel
        have hct : Hid (uns (bfo i (S, Q) (l.take k)).1 n + (bfo i (S, Q) (l.take k)).2.length = uns S n + Q.length) := bfo_cnt hgH.out S Q hkl
        by_cases hk : k < l.length
        · have hsn := bfo_snoc i (S, Q) hk
          have hok := hgH.out.ok _ (ed_mem hk)
          rcases hE.out wr hbl2 with hh0 | ⟨eb, eo, rfl, hAr⟩
          · omega
          have z0 := hAr.cf k hk
          have z1 := hAr.ct k hk
          have hki : (k : Int) < (l.length : Int) := by omega
          have hk2 : Hid (k ≤ 100000) := by have := hlH.out; show _ ≤ _; omega
          obtain ⟨F, hF⟩ : ∃ F : Nat, (ed l k).f = (F : Int) := ⟨(ed l k).f.toNat, by omega⟩
          obtain ⟨T, hT⟩ : ∃ T : Nat, (ed l k).t = (T : Int) := ⟨(ed l k).t.toNat, by omega⟩
          have hTn : T < n := by omega
          rw [hF] at z0
          rw [hT] at z1
          generalize bfo i (S, Q) (l.take k) = s at *
          obtain ⟨S2, Q2⟩ := s
          have hbst : bst i (S2, Q2) (ed l k) = if F = i ∧ S2 T = false then ((fun j => S2 j || decide (j = T)), Q2 ++ [T]) else (S2, Q2) := by
            unfold bst
            rw [hF, hT, Int.toNat_natCast]
            have e : ((F : Int) = (i : Int)) = (F = i) := propext ⟨fun h => by omega, fun h => by omega⟩
            simp only [e]
          rw [hbst] at hsn
          simp only at hct hQ2 hS2 ⊢
          have hm1 : Hid (Q2.length ≤ 1000) := by have h1 := hct.out; have h2 := hcntH.out; have h3 := hnH.out; simp only [List.length_cons] at h2; show _ ≤ _; omega
          obtain ⟨m, hm⟩ : ∃ m, Q2.length = m := ⟨_, rfl⟩
          rw [hm] at hm1 ⊢
          have hmH : Hid (Q2.length = m) := hm
          have hgs : gb < wr.heap.size := (hS2.lt _ rfl).2
          have hblA : Below gb w (wr.alloc (.cells #[.int .i64 (F : Int), .int .i64 (T : Int)] 52)) := hbl2.alloc (Nat.le_of_lt hgs) _
          have hn := heap_alloc_new wr (.cells #[.int .i64 (F : Int), .int .i64 (T : Int)] 52)
          have hSA : Hid (World.ownsRow (wr.alloc (.cells #[.int .i64 (F : Int), .int .i64 (T : Int)] 52)) gb 4 1 (.slice (some ⟨gb, 0, none⟩) n n) n (bls S2 n)) := hS2.alloc _
          have hQA : Hid (Qs (wr.alloc (.cells #[.int .i64 (F : Int), .int .i64 (T : Int)] 52)) (gb + 1) b2 off2 c2 Q2) := hQ2.kept (Below.heap_alloc _ _ _ hQ2.lt)
          have y0 : ((wr.alloc (.cells #[.int .i64 (F : Int), .int .i64 (T : Int)] 52))).cell? ⟨gb, T, none⟩ = some (.bool (S2 T)) := by
            have := hSA.out.cellAt T (by omega)
            rw [this, bls_get hTn]
          have hfz := owns_frz hSA.out T
          have hTi : (T : Int) < (n : Int) := by omega
          have hT0 : ¬ (T : Int) < 0 := by omega
          have hTg : ¬ (n : Int) ≤ (T : Int) := by omega
          have hbl2H : Hid (b2 ≠ gb) := by have := hQ2.lo; show _ ≠ _; omega
          have hsnH : Hid (bfo i (S, Q) (l.take (k + 1)) = if F = i ∧ S2 T = false then ((fun j => S2 j || decide (j = T)), Q2 ++ [T]) else (S2, Q2)) := hsn
          have hgsH : Hid (gb < wr.heap.size) := hgs
          have hTnH : Hid (T < n) := hTn
          clear hAr hE hbst hsn hF hT hok hm hQ2 hS2 hbl2 hgs hct hTn
          by_cases hFi : F = i
          · have hFe : ((F : Int) == (i : Int)) = true := by simp [hFi]
            cases hs : S2 T with
            | false =>
              rw [hs] at y0
              have hst : Hid (bfo i (S, Q) (l.take (k + 1)) = ((fun j => S2 j || decide (j = T)), Q2 ++ [T])) := by show _ = _; rw [hsnH.out, if_pos ⟨hFi, hs⟩]
              have hSW : Hid (World.ownsRow ((wr.alloc (.cells #[.int .i64 (F : Int), .int .i64 (T : Int)] 52)).setCell ⟨gb, T, none⟩ (.bool true)) gb 4 1 (.slice (some ⟨gb, 0, none⟩) n n) n (bls (fun j => S2 j || decide (j = T)) n)) := by
                show World.ownsRow _ _ _ _ _ _ _
                rw [← bls_set hTnH.out]; exact owns_store hSA.out _
              have hQW : Hid (Qs ((wr.alloc (.cells #[.int .i64 (F : Int), .int .i64 (T : Int)] 52)).setCell ⟨gb, T, none⟩ (.bool true)) (gb + 1) b2 off2 c2 Q2) := hQA.out.kept (Below.heap_setCell _ _ _ _ hbl2H.out)
              have hBW : Hid (Below gb w ((wr.alloc (.cells #[.int .i64 (F : Int), .int .i64 (T : Int)] 52)).setCell ⟨gb, T, none⟩ (.bool true))) := hblA.setCell (Nat.le_refl gb) _
              have hWs : Hid ((((wr.alloc (.cells #[.int .i64 (F : Int), .int .i64 (T : Int)] 52)).setCell ⟨gb, T, none⟩ (.bool true))).heap.size = wr.heap.size + 1) := by show _ = _; simp [World.setCell]
              have hnW : (((wr.alloc (.cells #[.int .i64 (F : Int), .int .i64 (T : Int)] 52)).setCell ⟨gb, T, none⟩ (.bool true))).heap[wr.heap.size]? = some (.cells #[.int .i64 (F : Int), .int .i64 (T : Int)] 52) := (Below.heap_setCell _ _ _ _ (by have := hgsH.out; show _ ≠ gb; omega)).trans hn
              have y1 : (((wr.alloc (.cells #[.int .i64 (F : Int), .int .i64 (T : Int)] 52)).setCell ⟨gb, T, none⟩ (.bool true))).cell? ⟨wr.heap.size, 1, none⟩ = some (.int .i64 (T : Int)) := (cell_of_row _ _ 1 _ _ _ hnW).trans rfl
              clear hs hFi hsnH hSA hQA hblA hnW
              go_wp2_with (first
                | (at_builtin; refine wpList_append_qs (gb := gb) (tt := T) rfl _ _ rfl (hQW.out.kept (Below.heap_alloc _ _ _ hQW.out.lt)) hmH.out rfl rfl (by have := cells_new ((wr.alloc (.cells #[.int .i64 (F : Int), .int .i64 (T : Int)] 52)).setCell ⟨gb, T, none⟩ (.bool true)) [.int .i64 (T : Int)] 3 0 _ rfl; rw [hWs.out] at this; exact this) hm1.out ?_; intro b5 off5 c5 w5 hQ5 hb5)
                | go_in)
              have hBA : Below (gb + 1) ((wr.alloc (.cells #[.int .i64 (F : Int), .int .i64 (T : Int)] 52)).setCell ⟨gb, T, none⟩ (.bool true)) (((wr.alloc (.cells #[.int .i64 (F : Int), .int .i64 (T : Int)] 52)).setCell ⟨gb, T, none⟩ (.bool true)).alloc (.cells #[.int .i64 (T : Int)] 3)) := (Below.refl _ _).alloc (by rw [hWs.out]; have := hgsH.out; omega) _
              have hB5 : Below (gb + 1) ((wr.alloc (.cells #[.int .i64 (F : Int), .int .i64 (T : Int)] 52)).setCell ⟨gb, T, none⟩ (.bool true)) w5 := hBA.trans hb5
              refine ⟨⟨k + 1, b5, off5, c5, ?_, ?_, hk, ?_, ?_, ?_⟩, ?_⟩
              · first | exact int_succ k | exact int_wsucc hk2.out
              · rw [hst.out]; simp [hmH.out]
              · rw [hst.out]; exact hQ5
              · rw [hst.out]; exact row_keep hSW.out hB5
              · exact hBW.out.trans (hB5.mono (Nat.le_succ gb))
              · first | exact meas_1 hk | exact meas_w hk hk2.out
            | true =>
              rw [hs] at y0
              have hst : Hid (bfo i (S, Q) (l.take (k + 1)) = (S2, Q2)) := by show _ = _; rw [hsnH.out, if_neg (by simp [hs])]
              have hlv : Hid (Value.slice (some ⟨b2, off2, none⟩) m c2 = .slice (some ⟨b2, off2, none⟩) Q2.length c2) := by show _ = _; rw [hmH.out]
              clear hs hFi hsnH
              go_wp2
              refine ⟨⟨k + 1, b2, off2, c2, ?_, ?_, hk, ?_, ?_, hblA⟩, ?_⟩
              · first | exact int_succ k | exact int_wsucc hk2.out
              · rw [hst.out]; exact hlv.out
              · rw [hst.out]; exact hQA.out
              · rw [hst.out]; exact hSA.out
              · first | exact meas_1 hk | exact meas_w hk hk2.out
          · have hFe : ((F : Int) == (i : Int)) = false := by simpa using (by omega : ¬ (F : Int) = (i : Int))
            have hst : Hid (bfo i (S, Q) (l.take (k + 1)) = (S2, Q2)) := by show _ = _; rw [hsnH.out, if_neg (fun x => hFi x.1)]
            have hlv : Hid (Value.slice (some ⟨b2, off2, none⟩) m c2 = .slice (some ⟨b2, off2, none⟩) Q2.length c2) := by show _ = _; rw [hmH.out]
            clear hFi hsnH
            go_wp2
            refine ⟨⟨k + 1, b2, off2, c2, ?_, ?_, hk, ?_, ?_, hblA⟩, ?_⟩
            · first | exact int_succ k | exact int_wsucc hk2.out
            · rw [hst.out]; exact hlv.out
            · rw [hst.out]; exact hQA.out
            · rw [hst.out]; exact hSA.out
            · first | exact meas_1 hk | exact meas_w hk hk2.out
        · have hki : ¬ (k : Int) < (l.length : Int) := by omega
          have e : k = l.length := by omega
          subst e
          rw [List.take_length] at hct hQ2 hS2 ⊢
          have hrd : Hid (Bh l n fr (bfo i (S, Q) l).1 (bfo i (S, Q) l).2) := hbhH.out.round hgH.out
          have hS2H : Hid (wr.ownsRow gb 4 1 (.slice (some ⟨gb, 0, none⟩) n n) n (bls (bfo i (S, Q) l).1 n)) := hS2
          have hQ2H : Hid (Qs wr (gb + 1) b2 off2 c2 (bfo i (S, Q) l).2) := hQ2
          have hbl2H : Hid (Below gb w wr) := hbl2
          clear hS2 hQ2 hbl2
          generalize bfo i (S, Q) l = s at *
          obtain ⟨S2, Q2⟩ := s
          go_wp2
          refine ⟨⟨b2, off2, c2, Q2, S2, rfl, hQ2H.out, hS2H.out, hrd.out, ?_, hbl2H.out⟩, ?_⟩
          · have h1 := hct.out; have h2 := hcntH.out; simp only [List.length_cons] at h1 h2; omega
          · have h1 := hct.out; rw [noC_bls hS2H.out, hno.out]; simp only [lenV] at h1 ⊢; omega
end Go.Proofs.YthfpdbogbmccjaaDoor
