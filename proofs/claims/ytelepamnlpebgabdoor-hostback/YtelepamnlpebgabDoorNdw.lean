/- Package need, walked: fits, check. -/
import Derived.Test.YtelepamnlpebgabDoorNdm
import Derived.ProofKit
import Derived.Test.YtelepamnlpebgabDoorChecked
import Derived.WalkKit
import Derived.Laws.Rows
import Derived.Laws.Tables
import Derived.Deep.QuietTactic
import Derived.BigQuiet
namespace Go.Proofs.YtelepamnlpebgabDoor
open Go.RowKit Ndm
set_option linter.unusedSectionVars false
set_option linter.unusedVariables false

def nv (a : N3) : Value := .agg #[.int .i64 a.x, .int .i64 a.y, .int .i64 a.z]

set_option maxHeartbeats 1000000 in
theorem fits_any (a b : N3) (w : World) : Calls Tryd.prog 64 #[.agg #[.int .i64 a.x, .int .i64 a.y, .int .i64 a.z], .agg #[.int .i64 b.x, .int .i64 b.y, .int .i64 b.z]] w fun e w' => e = .returned (.bool (ftN a b)) ∧ Below w.heap.size w w' := by
  by_cases h1 : a.x ≤ b.x
  · by_cases h2 : a.y ≤ b.y
    · by_cases h3 : a.z ≤ b.z
      · have e : ftN a b = true := by simp [ftN]; omega
        rw [e]
        clear e
        go_enter Tryd.func64, Tryd.ntmps64
        go_wp2
        go_ret
        exact ⟨rfl, ((Below.refl _ _).alloc (Nat.le_refl _) _).alloc (by simp) _⟩
      · have e : ftN a b = false := by simp [ftN]; omega
        rw [e]
        clear e
        go_enter Tryd.func64, Tryd.ntmps64
        go_wp2
        go_ret
        exact ⟨rfl, ((Below.refl _ _).alloc (Nat.le_refl _) _).alloc (by simp) _⟩
    · have e : ftN a b = false := by simp [ftN]; omega
      rw [e]
      clear e
      go_enter Tryd.func64, Tryd.ntmps64
      go_wp2
      go_ret
      exact ⟨rfl, ((Below.refl _ _).alloc (Nat.le_refl _) _).alloc (by simp) _⟩
  · have e : ftN a b = false := by simp [ftN]; omega
    rw [e]
    clear e
    go_enter Tryd.func64, Tryd.ntmps64
    go_wp2
    go_ret
    exact ⟨rfl, ((Below.refl _ _).alloc (Nat.le_refl _) _).alloc (by simp) _⟩

theorem need_info (cs : Array Value) (h : cs.size = 3) : (Tryd.prog.info? 27).map (·.size) = some cs.size := by rw [h]; kernel_rfl
theorem need_one (x y z : Int) : (#[.int .i64 x, .int .i64 y, .int .i64 z] : Array Value).all (·.oneCell') = true := by simp [Value.oneCell']
theorem wrap_succB {i : Nat} (h : i ≤ 10000000000000) : wrap64 ((i : Int) + 1) = ((i + 1 : Nat) : Int) := by unfold wrap64; omega
theorem meas_wB {n i : Nat} (hi : i < n) (h : i ≤ 10000000000000) : n - (intOf (.int .i64 (wrap64 ((i : Int) + 1)))).toNat < n - (intOf (.int .i64 (i : Int))).toNat := by
  rw [wrap_succB h]
  simp [intOf]
  omega
theorem meas_1 {n i : Nat} (hi : i < n) : n - (intOf (.int .i64 ((i : Int) + 1))).toNat < n - (intOf (.int .i64 (i : Int))).toNat := by
  simp [intOf]
  omega
theorem int_succ (i : Nat) : Value.int .i64 ((i : Int) + 1) = .int .i64 ((i + 1 : Nat) : Int) := by simp
theorem int_wsuccB {i : Nat} (h : i ≤ 10000000000000) : Value.int .i64 (wrap64 ((i : Int) + 1)) = .int .i64 ((i + 1 : Nat) : Int) := by rw [wrap_succB h]
theorem ret_i {a b : Int} (h : a = b) : Ending.returned (.int .i64 a) = .returned (.int .i64 b) := by rw [h]
theorem ret_b {a b : Bool} (h : a = b) : Ending.returned (.bool a) = .returned (.bool b) := by rw [h]
theorem drewN_below {B : Nat} {w wz : World} (h : Below B w wz) (q : Nat) : Below B w (wz.drewN q) := ⟨h.os, h.tape, h.output, h.size, h.block⟩
theorem below_row {B : Nat} {w w' : World} (h : Below B w w') {g : Nat} (hg : B ≤ g) {cs : Array Value} : Below B w (w'.setRow g cs) :=
  ⟨h.os, h.tape, h.output, by have := h.size; simpa [World.setRow] using this, fun k hk => by rw [setRow_other w' g k cs (by omega)]; exact h.block k hk⟩

theorem load_wanted {P : Program} {ops : Array Oper} {rest : List Oper} {o : Oper} {a : Act} {w : World} {Q : Exit → Act → World → Prop} (hw : Region.wanted o (yielded ops a.tmps) = true) (ty : TypeId) (x : Operand) (ho : o.op = .load ty x)
    (g : Nat) (hx : a.eval x = .pointer (some ⟨g, 0, none⟩)) (t : TypeId) (cs : Array Value) (fr : Nat × Nat) (d : TypeDesc) (hg : w.heap[g]? = some (.cells cs t fr))
    (hu : P.underlying ty = some d) (hd : (match d with | .struct _ | .array _ _ => true | _ => false) = true) (hi : (P.info? ty).map (·.size) = some cs.size)
    (h : wpList P ops Q rest (a.put o.dst (.agg cs)) w) : wpList P ops Q (o :: rest) a w := by
  unfold wpList
  rw [if_pos hw]
  exact .inl (wp_load_row ty x ho g hx t cs fr d hg hu hd hi h)

/-- The needs lie in the block b from o on. -/
structure NdAt (w : World) (b o : Nat) (l : List N3) : Prop where
  lt : b < w.heap.size
  cx : ∀ j, j < l.length → w.cell? ⟨b, o + j * 3, none⟩ = some (.int .i64 (nE l j).x)
  cy : ∀ j, j < l.length → w.cell? ⟨b, o + j * 3 + 1, none⟩ = some (.int .i64 (nE l j).y)
  cz : ∀ j, j < l.length → w.cell? ⟨b, o + j * 3 + 2, none⟩ = some (.int .i64 (nE l j).z)
def Nds (w : World) (q : Option Addr) (l : List N3) : Prop := l.length = 0 ∨ ∃ b o, q = some ⟨b, o, none⟩ ∧ NdAt w b o l
theorem NdAt.below {w w' : World} {b o : Nat} {l : List N3} {B : Nat} (h : NdAt w b o l) (hb : Below B w w') (hB : b < B) : NdAt w' b o l :=
  ⟨Nat.lt_of_lt_of_le h.lt hb.size, fun j hj => (hb.cell (p := ⟨b, o + j * 3, none⟩) hB).trans (h.cx j hj), fun j hj => (hb.cell (p := ⟨b, o + j * 3 + 1, none⟩) hB).trans (h.cy j hj), fun j hj => (hb.cell (p := ⟨b, o + j * 3 + 2, none⟩) hB).trans (h.cz j hj)⟩
theorem Nds.below {w w' : World} {q : Option Addr} {l : List N3} (h : Nds w q l) {B : Nat} (hb : Below B w w') (hB : w.heap.size ≤ B) : Nds w' q l := by
  rcases h with h0 | ⟨b, o, e, hA⟩
  · exact Or.inl h0
  · exact Or.inr ⟨b, o, e, hA.below hb (Nat.lt_of_lt_of_le hA.lt hB)⟩
/-- A need lies in a box of its own. -/
def NBox (w : World) (g : Nat) (a : N3) : Prop := w.heap[g]? = some (.cells #[.int .i64 a.x, .int .i64 a.y, .int .i64 a.z] 27 (0, 0))
theorem NBox.lt {w : World} {g : Nat} {a : N3} (h : NBox w g a) : g < w.heap.size := (Array.getElem?_eq_some_iff.1 h).1
theorem NBox.below {w w' : World} {g : Nat} {a : N3} {B : Nat} (h : NBox w g a) (hb : Below B w w') (hB : g < B) : NBox w' g a := (hb.block g hB).trans h
theorem NBox.c0 {w : World} {g : Nat} {a : N3} (h : NBox w g a) : w.cell? ⟨g, 0, none⟩ = some (.int .i64 a.x) := (cell_of_row _ _ 0 _ _ _ h).trans rfl
theorem NBox.c1 {w : World} {g : Nat} {a : N3} (h : NBox w g a) : w.cell? ⟨g, 1, none⟩ = some (.int .i64 a.y) := (cell_of_row _ _ 1 _ _ _ h).trans rfl
theorem NBox.c2 {w : World} {g : Nat} {a : N3} (h : NBox w g a) : w.cell? ⟨g, 2, none⟩ = some (.int .i64 a.z) := (cell_of_row _ _ 2 _ _ _ h).trans rfl
/-- One or two needs in a new block. -/
theorem nds_one (w : World) (a : N3) : Nds (w.alloc (.cells #[.int .i64 a.x, .int .i64 a.y, .int .i64 a.z] 27)) (some ⟨w.heap.size, 0, none⟩) [a] := by
  have h := heap_alloc_new w (.cells #[.int .i64 a.x, .int .i64 a.y, .int .i64 a.z] 27)
  refine Or.inr ⟨_, _, rfl, by simp, fun j hj => ?_, fun j hj => ?_, fun j hj => ?_⟩
  all_goals
    obtain rfl : j = 0 := by simpa using hj
    exact (cell_of_row _ _ _ _ _ _ h).trans rfl
theorem nds_two (w : World) (a b : N3) : Nds (w.alloc (.cells #[.int .i64 a.x, .int .i64 a.y, .int .i64 a.z, .int .i64 b.x, .int .i64 b.y, .int .i64 b.z] 27)) (some ⟨w.heap.size, 0, none⟩) [a, b] := by
  have h := heap_alloc_new w (.cells #[.int .i64 a.x, .int .i64 a.y, .int .i64 a.z, .int .i64 b.x, .int .i64 b.y, .int .i64 b.z] 27)
  refine Or.inr ⟨_, _, rfl, by simp, fun j hj => ?_, fun j hj => ?_, fun j hj => ?_⟩
  all_goals
    have hj' : j < 2 := hj
    rcases (show j = 0 ∨ j = 1 by omega) with rfl | rfl
    all_goals exact (cell_of_row _ _ _ _ _ _ h).trans rfl
def ce (b : Bool) : Int := if b then 0 else 4

set_option maxHeartbeats 2000000 in
set_option maxRecDepth 100000 in
theorem check_any {w : World} {q : Option Addr} {l : List N3} {n cap : Nat} (hn : l.length = n) (h : Nds w q l) (hl : n ≤ 10000000000000) :
    Calls Tryd.prog 54 #[.slice q n cap] w fun e w' => e = .returned (.int .i64 (ce (okL l))) ∧ Below w.heap.size w w' := by
  have hlH : Hid (n ≤ 10000000000000) := hl
  have hnH : Hid (l.length = n) := hn
  have hEb : Hid (∀ w1, Below w.heap.size w w1 → Nds w1 q l) := fun w1 hb => h.below hb (Nat.le_refl _)
  clear h hl hn
  go_enter Tryd.func54, Tryd.ntmps54
  go_wp2
  have hb0 : Hid (NBox ((w.alloc (.cells #[.int .i64 0, .int .i64 0, .int .i64 0] 27)).alloc (.cells #[.int .i64 1099511627776, .int .i64 1099511627776, .int .i64 1099511627776] 27)) w.heap.size nz) := (Below.heap_alloc _ _ _ (by simp)).trans (heap_alloc_new _ _)
  have hb1 : Hid (NBox ((w.alloc (.cells #[.int .i64 0, .int .i64 0, .int .i64 0] 27)).alloc (.cells #[.int .i64 1099511627776, .int .i64 1099511627776, .int .i64 1099511627776] 27)) (w.heap.size + 1) top) := by
    have h := heap_alloc_new (w.alloc (.cells #[.int .i64 0, .int .i64 0, .int .i64 0] 27)) (.cells #[.int .i64 1099511627776, .int .i64 1099511627776, .int .i64 1099511627776] 27)
    have e : (w.alloc (.cells #[.int .i64 0, .int .i64 0, .int .i64 0] 27)).heap.size = w.heap.size + 1 := by simp
    rw [e] at h
    exact h
  have hBA : Hid (Below w.heap.size w ((w.alloc (.cells #[.int .i64 0, .int .i64 0, .int .i64 0] 27)).alloc (.cells #[.int .i64 1099511627776, .int .i64 1099511627776, .int .i64 1099511627776] 27))) := ((Below.refl _ _).alloc (Nat.le_refl _) _).alloc (by simp) _
  generalize ((w.alloc (.cells #[.int .i64 0, .int .i64 0, .int .i64 0] 27)).alloc (.cells #[.int .i64 1099511627776, .int .i64 1099511627776, .int .i64 1099511627776] 27)) = wA at *
  go_loopw [11] (fun iv wr => ∃ k : Nat, iv = .int .i64 k ∧ k ≤ n ∧ Hid (okL (l.take k) = true) ∧ Below wA.heap.size wA wr)
    (fun iv _ => n - (intOf iv).toNat)
  case atStart => exact ⟨0, rfl, Nat.zero_le _, rfl, Below.refl _ _⟩
  case round =>
    obtain ⟨k, rfl, hkn, hall, hbl⟩ := hrel
    have hBr : Hid (Below w.heap.size w wr) := hBA.out.trans (hbl.mono hBA.out.size)
    have hsz := hBr.out.size
    by_cases hk : k < n
    · rcases hEb.out wr hBr.out with h0 | ⟨b, o, rfl, hA⟩
      · have := hnH.out; omega
      have x0 := hA.cx k (by have := hnH.out; omega)
      have x1 := hA.cy k (by have := hnH.out; omega)
      have x2 := hA.cz k (by have := hnH.out; omega)
      have hyes : Hid (okN (nE l k) = true → okL (l.take (k + 1)) = true) := fun h2 => okL_take (by have := hnH.out; omega) hall.out h2
      have hno : Hid (okN (nE l k) = false → okL l = false) := fun h2 => okL_no (by have := hnH.out; omega) h2
      have y0 := hb0.out.below hbl hb0.out.lt
      have y1 := hb1.out.below hbl hb1.out.lt
      have y0r : Hid (NBox wr w.heap.size nz) := y0
      have y1r : Hid (NBox wr (w.heap.size + 1) top) := y1
      have hki : (k : Int) < (n : Int) := by omega
      have hk2 : Hid (k ≤ 10000000000000) := by have := hlH.out; show _ ≤ _; omega
      have hblH : Hid (Below wA.heap.size wA wr) := hbl
      have hsz1 : Hid (w.heap.size + 1 < wr.heap.size) := y1.lt
      have hok := okN_ft (nE l k)
      have hf1 := fun w1 => fits_any nz (nE l k) w1
      have hf2 := fun w1 => fits_any (nE l k) top w1
      generalize nE l k = a at *
      have pa : (wr.alloc (.cells #[.int .i64 a.x, .int .i64 a.y, .int .i64 a.z] 27)).heap[wr.heap.size]? = some (.cells #[.int .i64 a.x, .int .i64 a.y, .int .i64 a.z] 27 (0, 0)) := heap_alloc_new _ _
      have p0 : (wr.alloc (.cells #[.int .i64 a.x, .int .i64 a.y, .int .i64 a.z] 27)).heap[w.heap.size]? = some (.cells #[.int .i64 0, .int .i64 0, .int .i64 0] 27 (0, 0)) := (Below.heap_alloc _ _ _ y0.lt).trans y0
      have p1 : Hid ((wr.alloc (.cells #[.int .i64 a.x, .int .i64 a.y, .int .i64 a.z] 27)).heap[w.heap.size + 1]? = some (.cells #[.int .i64 1099511627776, .int .i64 1099511627776, .int .i64 1099511627776] 27 (0, 0))) := (Below.heap_alloc _ _ _ y1.lt).trans y1
      have hbx : Hid (Below wr.heap.size wr (wr.alloc (.cells #[.int .i64 a.x, .int .i64 a.y, .int .i64 a.z] 27))) := (Below.refl _ _).alloc (Nat.le_refl _) _
      have hsx : Hid (wr.heap.size < (wr.alloc (.cells #[.int .i64 a.x, .int .i64 a.y, .int .i64 a.z] 27)).heap.size) := by show _ < _; simp
      clear hall hA y0 y1 hbl
      by_cases c1 : ftN nz a = true
      · have hf1' : ∀ w1, Calls Tryd.prog 64 #[.agg #[.int .i64 0, .int .i64 0, .int .i64 0], .agg #[.int .i64 a.x, .int .i64 a.y, .int .i64 a.z]] w1 fun e w' => e = .returned (.bool true) ∧ Below w1.heap.size w1 w' := fun w1 => by have := hf1 w1; rw [c1] at this; exact this
        clear hf1
        have hgo : ∀ v, ftN a top = v → ∀ w1, Calls Tryd.prog 64 #[.agg #[.int .i64 a.x, .int .i64 a.y, .int .i64 a.z], .agg #[.int .i64 1099511627776, .int .i64 1099511627776, .int .i64 1099511627776]] w1 fun e w' => e = .returned (.bool v) ∧ Below w1.heap.size w1 w' := fun v hv w1 => by have := hf2 w1; rw [hv] at this; exact this
        clear hf2
        by_cases c2 : ftN a top = true
        · have hoky : Hid (okL (l.take (k + 1)) = true) := hyes.out (by rw [hok, c1, c2]; rfl)
          have hf2' := hgo true c2
          clear hgo hyes hno c1 c2 hok
          go_wp2_with (first
            | (refine load_wanted rfl 27 _ rfl _ rfl _ _ _ _ p0 Tryd.underlying27 rfl (need_info _ rfl) ?_)
            | (refine load_wanted rfl 27 _ rfl _ rfl _ _ _ _ pa Tryd.underlying27 rfl (need_info _ rfl) ?_)
            | (go_at_call 64; refine (hf1' _).mono ?_; rintro e w3 ⟨rfl, hb3⟩; have pb := (hb3.block wr.heap.size hsx.out).trans pa; have q1 := (hb3.block (w.heap.size + 1) (Nat.lt_trans hsz1.out hsx.out)).trans p1.out; clear hf1' pa p0 p1)
            | (refine load_wanted rfl 27 _ rfl _ rfl _ _ _ _ pb Tryd.underlying27 rfl (need_info _ rfl) ?_)
            | (refine load_wanted rfl 27 _ rfl _ rfl _ _ _ _ q1 Tryd.underlying27 rfl (need_info _ rfl) ?_)
            | (go_at_call 64; refine (hf2' _).mono ?_; rintro e w4 ⟨rfl, hb4⟩; clear hf2')
            | go_in)
          have hbw : Below wA.heap.size wA w4 := hblH.out.trans ((hbx.out.trans ((hb3.trans (hb4.mono hb3.size)).mono (Nat.le_of_lt hsx.out))).mono hblH.out.size)
          refine ⟨⟨k + 1, ?_, hk, hoky, hbw⟩, ?_⟩
          · first | exact int_succ k | exact int_wsuccB hk2.out
          · first | exact meas_1 hk | exact meas_wB hk hk2.out
        · have c2' : ftN a top = false := by simpa using c2
          have hokn : Hid (okL l = false) := hno.out (by rw [hok, c1, c2']; rfl)
          have hf2' := hgo false c2'
          clear hgo hyes hno c1 c2 c2' hok
          go_wp2_with (first
            | (refine load_wanted rfl 27 _ rfl _ rfl _ _ _ _ p0 Tryd.underlying27 rfl (need_info _ rfl) ?_)
            | (refine load_wanted rfl 27 _ rfl _ rfl _ _ _ _ pa Tryd.underlying27 rfl (need_info _ rfl) ?_)
            | (go_at_call 64; refine (hf1' _).mono ?_; rintro e w3 ⟨rfl, hb3⟩; have pb := (hb3.block wr.heap.size hsx.out).trans pa; have q1 := (hb3.block (w.heap.size + 1) (Nat.lt_trans hsz1.out hsx.out)).trans p1.out; clear hf1' pa p0 p1)
            | (refine load_wanted rfl 27 _ rfl _ rfl _ _ _ _ pb Tryd.underlying27 rfl (need_info _ rfl) ?_)
            | (refine load_wanted rfl 27 _ rfl _ rfl _ _ _ _ q1 Tryd.underlying27 rfl (need_info _ rfl) ?_)
            | (go_at_call 64; refine (hf2' _).mono ?_; rintro e w4 ⟨rfl, hb4⟩; clear hf2')
            | go_in)
          go_ret
          exact ⟨by rw [hokn.out]; first | rfl | simp [ce], hBr.out.trans ((hbx.out.trans ((hb3.trans (hb4.mono hb3.size)).mono (Nat.le_of_lt hsx.out))).mono hBr.out.size)⟩
      · have c1' : ftN nz a = false := by simpa using c1
        have hokn : Hid (okL l = false) := hno.out (by rw [hok, c1']; rfl)
        have hf1' : ∀ w1, Calls Tryd.prog 64 #[.agg #[.int .i64 0, .int .i64 0, .int .i64 0], .agg #[.int .i64 a.x, .int .i64 a.y, .int .i64 a.z]] w1 fun e w' => e = .returned (.bool false) ∧ Below w1.heap.size w1 w' := fun w1 => by have := hf1 w1; rw [c1'] at this; exact this
        clear hf1 hf2 hyes hno c1 c1' hok
        go_wp2_with (first
          | (refine load_wanted rfl 27 _ rfl _ rfl _ _ _ _ p0 Tryd.underlying27 rfl (need_info _ rfl) ?_)
          | (refine load_wanted rfl 27 _ rfl _ rfl _ _ _ _ pa Tryd.underlying27 rfl (need_info _ rfl) ?_)
          | (go_at_call 64; refine (hf1' _).mono ?_; rintro e w3 ⟨rfl, hb3⟩; clear hf1' pa p0 p1)
          | go_in)
        go_ret
        exact ⟨by rw [hokn.out]; first | rfl | simp [ce], hBr.out.trans ((hbx.out.trans (hb3.mono (Nat.le_of_lt hsx.out))).mono hBr.out.size)⟩
    · have hki : ¬ (k : Int) < (n : Int) := by omega
      have e : k = n := by omega
      have hok : Hid (okL l = true) := by have := hall.out; rwa [e, ← hnH.out, List.take_length] at this
      clear hall hbl
      go_wp2
      go_ret
      exact ⟨by rw [hok.out]; first | rfl | simp [ce], hBr.out⟩
end Go.Proofs.YtelepamnlpebgabDoor
