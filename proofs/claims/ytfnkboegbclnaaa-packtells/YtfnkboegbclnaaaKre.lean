/- The reference of package pack: Downward. -/
import Derived.Test.YtfnkboegbclnaaaKrd
namespace Go.Proofs.Ytfnkboegbclnaaa
open Go.RowKit
set_option linter.unusedSectionVars false
set_option linter.unusedVariables false

def bof (P : List Nat) (n : Nat) : List Value := (List.range n).map fun j => .bool (decide (j ∈ P))
theorem bof_len (P : List Nat) (n : Nat) : (bof P n).length = n := by simp [bof]
theorem bof_get {P : List Nat} {n j : Nat} (h : j < n) : (bof P n)[j]? = some (.bool (decide (j ∈ P))) := by simp [bof, h]
theorem bof_nil (n : Nat) : bof [] n = List.replicate n (.bool false) := by
  apply List.ext_getElem?
  intro k
  by_cases hk : k < n
  · rw [bof_get hk]; simp [hk]
  · rw [List.getElem?_eq_none (by rw [bof_len]; omega), List.getElem?_eq_none (by simp; omega)]
theorem bof_set {P : List Nat} {n b : Nat} : (bof P n).set b (.bool true) = bof (P ++ [b]) n := by
  apply List.ext_getElem?
  intro k
  rw [List.getElem?_set]
  by_cases hk : k < n
  · rw [bof_get hk, bof_get hk, bof_len]
    by_cases e : b = k
    · subst e; simp [hk]
    · rw [if_neg e]
      have : (k ∈ P ++ [b]) ↔ k ∈ P := by simp; omega
      simp only [this]
  · rw [List.getElem?_eq_none (by rw [bof_len]; omega), List.getElem?_eq_none (by rw [bof_len]; omega)]
    simp [bof_len]
    omega
theorem info_bool : (Try.prog.info? 4).map (fun i => (i.zero, i.size, i.bytes)) = some (some (.bool false), 1, 1) := by kernel_rfl
def pgd (P : List Nat) (j : Nat) : Int := ((P.getD j 0 : Nat) : Int)
theorem pgd_snoc {P : List Nat} {k b : Nat} (h : P.length = k) : numf (pgd (P ++ [b])) (k + 1) = numf (pgd P) k ++ [.int .i64 (b : Int)] := by
  rw [numf_snoc]
  have e1 : numf (pgd (P ++ [b])) k = numf (pgd P) k := numf_congr fun j hj => by
    unfold pgd
    rw [List.getD_eq_getElem?_getD, List.getD_eq_getElem?_getD, List.getElem?_append_left (by omega)]
  have e2 : pgd (P ++ [b]) k = (b : Int) := by
    unfold pgd
    rw [List.getD_eq_getElem?_getD, List.getElem?_append_right (by omega), h, Nat.sub_self]
    rfl
  rw [e1, e2]

/-- What Downward answers. -/
def DwO (l : List Int) (B : Nat) (e : Ending) (w' : World) : Prop := ∃ P q2 c2, Dwi l l.length P ∧ e = .returned (.slice q2 l.length c2) ∧ w'.ownsRow B 3 1 (.slice q2 l.length c2) l.length (numf (pgd P) l.length)
set_option maxHeartbeats 2000000 in
set_option maxRecDepth 100000 in
theorem downward_any {w : World} {q : Option Addr} {l : List Int} {c : Nat} (h : Nums w q l) (hn : l.length ≤ 1000) :
    Calls Try.prog 16 #[.slice q l.length c] w fun e w' => DwO l w.heap.size e w' ∧ Below w.heap.size w w' := by
  obtain ⟨n, hnn⟩ : ∃ n, n = l.length := ⟨_, rfl⟩
  have hnH : Hid (n ≤ 1000 ∧ l.length = n) := ⟨by omega, hnn.symm⟩
  have hNH : Hid (∀ w1, Below w.heap.size w w1 → Nums w1 q l) := fun w1 hb => h.below hb (Nat.le_refl _)
  have hDW : Hid (∀ (P : List Nat) (q2 : Option Addr) (c2 : Nat) (w' : World), Dwi l n P → w'.ownsRow w.heap.size 3 1 (.slice q2 n c2) n (numf (pgd P) n) → DwO l w.heap.size (.returned (.slice q2 n c2)) w') := fun P q2 c2 w' h1 h2 => by
    rw [hnn] at h1 h2
    rw [hnn]
    exact ⟨P, q2, c2, h1, rfl, h2⟩
  rw [← hnn]
  have hnz : ¬ (n : Int) < 0 := by omega
  clear h hn hnn
  go_enter Try.func16, Try.ntmps16
  go_wp2_with (first
    | (at_make; obtain ⟨i0, hi, hz0, hz1, hz2⟩ := info_parts info_bool; refine wpList_make_full _ rfl _ _ 53 rfl w.heap.size 4 i0 (.bool false) 1 Try.underlying53 hi hz0 hz1 _ _ _ _ n rfl rfl rfl rfl (by rw [hz2]; have := hnH.out; omega) (by unfold maxLen; have := hnH.out; omega) (Nat.le_refl _) ?_; intro w1 hown1 hgrow1; clear hi hz0 hz1 hz2)
    | go_in)
  have hat1 : w1.ownsRow w.heap.size 4 1 (.slice (some ⟨w.heap.size, 0, none⟩) n n) n (bof [] n) := by
    have e : (madeCells (Value.bool false).cells (n * 1)).toList = bof [] n := by
      rw [bof_nil, Nat.mul_one]
      exact toList_madeCells_one _ _
    rw [← e]; exact hown1
  have hB1 : Below w.heap.size w w1 := ⟨hgrow1.os, hgrow1.tape, hgrow1.output, hgrow1.size, fun k hk => hgrow1.block k hk (by simp)⟩
  have hgl : w.heap.size < w1.heap.size := (hat1.lt _ rfl).2
  clear hown1 hgrow1
  generalize hgb : w.heap.size = gb at *
  have hgbH : Hid (w.heap.size = gb) := hgb
  have hglH : Hid (gb < w1.heap.size) := hgl
  clear hgb hgl
  go_loopw [3, 13] (fun ov kv wr => ∃ (k : Nat) (P : List Nat) (q2 : Option Addr) (c2 : Nat), kv = .int .i64 k ∧ ov = .slice q2 k c2 ∧ Hid (k ≤ n) ∧ Hid (Dwi l k P) ∧ Hid (wr.ownsRow w1.heap.size 3 1 (.slice q2 k c2) k (numf (pgd P) k)) ∧ Hid (wr.ownsRow gb 4 1 (.slice (some ⟨gb, 0, none⟩) n n) n (bof P n)) ∧ Hid (Below gb w wr ∧ w1.heap.size ≤ wr.heap.size))
    (fun _ kv _ => n - (intOf kv).toNat)
  case atStart => exact ⟨0, [], none, 0, rfl, rfl, Nat.zero_le _, Dwi.nil l, World.ownsRow_nil _ _ _ _, hat1, ⟨hB1, Nat.le_refl _⟩⟩
  case round =>
    clear hat1 hB1
    obtain ⟨k, P, q2, c2, rfl, rfl, hkn, hD, hrow, hdn, hbl⟩ := hrel
    by_cases hk : k < n
    · have hkz : (k : Int) < (n : Int) := by omega
      have hkH : Hid (k < n) := hk
      have hk5 : Hid (k ≤ 100000) := by have := hnH.out; show _ ≤ _; omega
      clear hk
      go_wp2
      go_loopg [5, 17] n (fun gz bv iv wq => ∃ i : Nat, iv = .int .i64 i ∧ bv = .int .i64 (bst l P i) ∧ n - i ≤ gz ∧ Hid (i ≤ n) ∧ wq = wr)
      case atStart => exact ⟨0, rfl, rfl, by omega, Nat.zero_le _, rfl⟩
      case round =>
        rename World => wq
        obtain ⟨i, rfl, rfl, hgz, hin, rfl⟩ := hrel
        by_cases hi : i < n
        · have hiz : (i : Int) < (n : Int) := by omega
          have hiH : Hid (i < n) := hi
          have hi5 : Hid (i ≤ 100000) := by have := hnH.out; show _ ≤ _; omega
          obtain ⟨gl, ol, rfl, hA⟩ := (hNH.out wq (hgbH.out ▸ hbl.out.1)).resolve_left (by have := hnH.out; omega)
          have zl := hA.c i (by have := hnH.out; omega)
          have zd : wq.cell? ⟨gb, i, none⟩ = some (.bool (decide (i ∈ P))) := by rw [hdn.out.cellAt i (by omega), bof_get hi]
          have hst : Hid (bst l P (i + 1) = if i ∉ P ∧ (bst l P i < 0 ∨ nm l (bst l P i).toNat < nm l i) then (i : Int) else bst l P i) := rfl
          clear hi
          by_cases hiP : i ∈ P
          · have hs2 : Hid (bst l P (i + 1) = bst l P i) := by have := hst.out; rwa [if_neg (fun h => h.1 hiP)] at this
            rw [decide_eq_true hiP] at zd
            clear hst hiP hA
            generalize bst l P i = bz at *
            go_wp2
            go_roundg (n - (i + 1))
            case measure => have := hiH.out; omega
            case rel => exact ⟨i + 1, by first | exact int_wsucc hi5.out | exact int_succ i, by rw [hs2.out], Nat.le_refl _, hiH.out, rfl⟩
          · rw [decide_eq_false hiP] at zd
            rcases bst_spec l P i with ⟨e, _⟩ | ⟨b, e, hb, _, _⟩
            · have hs2 : Hid (bst l P (i + 1) = (i : Int)) := by have := hst.out; rwa [if_pos ⟨hiP, Or.inl (by rw [e]; decide)⟩] at this
              rw [e]
              clear hst hiP hA e
              have hm1 : (-1 : Int) < 0 := by decide
              go_wp2
              go_roundg (n - (i + 1))
              case measure => have := hiH.out; omega
              case rel => exact ⟨i + 1, by first | exact int_wsucc hi5.out | exact int_succ i, by rw [hs2.out], Nat.le_refl _, hiH.out, rfl⟩
            · have zb := hA.c b (by have := hnH.out; have := hiH.out; omega)
              have hbz : (b : Int) < (n : Int) := by have := hiH.out; omega
              have hb0 : ¬ (b : Int) < 0 := by omega
              have hst2 : Hid (bst l P (i + 1) = if nm l b < nm l i then (i : Int) else (b : Int)) := by
                have h1 := hst.out
                rw [e, Int.toNat_natCast] at h1
                show _ = _
                rw [h1]
                by_cases hx : nm l b < nm l i
                · rw [if_pos ⟨hiP, Or.inr hx⟩, if_pos hx]
                · rw [if_neg hx, if_neg (fun h => by rcases h.2 with h3 | h3 <;> omega)]
              rw [e]
              clear hst hiP hA e hb
              generalize nm l b = y at *
              generalize nm l i = x at *
              by_cases hx : y < x
              · have hs2 : Hid (bst l P (i + 1) = (i : Int)) := by have := hst2.out; rwa [if_pos hx] at this
                clear hst2
                go_wp2
                go_roundg (n - (i + 1))
                case measure => have := hiH.out; omega
                case rel => exact ⟨i + 1, by first | exact int_wsucc hi5.out | exact int_succ i, by rw [hs2.out], Nat.le_refl _, hiH.out, rfl⟩
              · have hs2 : Hid (bst l P (i + 1) = (b : Int)) := by have := hst2.out; rwa [if_neg hx] at this
                clear hst2
                go_wp2
                go_roundg (n - (i + 1))
                case measure => have := hiH.out; omega
                case rel => exact ⟨i + 1, by first | exact int_wsucc hi5.out | exact int_succ i, by rw [hs2.out], Nat.le_refl _, hiH.out, rfl⟩
        · have hiz : ¬ (i : Int) < (n : Int) := by omega
          have e : i = n := by have := hin.out; omega
          subst e
          obtain ⟨b, eb, hb, hbP, hD2⟩ := hD.out.step (by have := hkH.out; have := hnH.out; omega)
          rw [hnH.out.2] at eb
          rw [eb]
          have hbi : b < i := by have := hnH.out; omega
          have hbz : (b : Int) < (i : Int) := by omega
          have hbH : Hid (b < i) := hbi
          have hD2H : Hid (Dwi l (k + 1) (P ++ [b])) := hD2
          have y0 : wq.cell? ⟨gb, b, none⟩ = some (.bool (decide (b ∈ P))) := by rw [hdn.out.cellAt b (by omega), bof_get hbi]
          have f0 := owns_frz hdn.out b
          have hrS := owns_set_other hrow.out ⟨gb, b, none⟩ (.bool true) (fun g e => by have h1 := (hrow.out.lt g e).1; have := hglH.out; show g ≠ gb; omega)
          have hdS : Hid ((wq.setCell ⟨gb, b, none⟩ (.bool true)).ownsRow gb 4 1 (.slice (some ⟨gb, 0, none⟩) i i) i (bof (P ++ [b]) i)) := by
            have h2 := owns_store hdn.out (j := b) (.bool true)
            rw [bof_set] at h2
            exact h2
          have hbS : Hid (Below gb w (wq.setCell ⟨gb, b, none⟩ (.bool true)) ∧ w1.heap.size ≤ (wq.setCell ⟨gb, b, none⟩ (.bool true)).heap.size) := ⟨hbl.out.1.setCell (Nat.le_refl gb) _, by have := hbl.out.2; simpa [World.setCell] using this⟩
          have hk9 : k ≤ 1000 := by have := hkn.out; have := hnH.out; omega
          have hsB := hbl.out.2
          have hSz : Hid ((wq.setCell ⟨gb, b, none⟩ (.bool true)).heap.size = wq.heap.size) := by show _ = _; simp [World.setCell]
          clear hD2 hbP hb eb hbi
          go_wp2_with (first
            | (at_builtin; obtain ⟨i0, hi9, hz0, hz1, hz2⟩ := info_parts info_int; refine wpList_append_own_at _ rfl _ _ 23 rfl w1.heap.size 3 i0 (.int .i64 0) 1 8 Try.underlying23 hi9 hz0 hz1 hz2 rfl (by decide) _ _ _ rfl (hrS.alloc _) ⟨wq.heap.size, 0, none⟩ 1 1 [.int .i64 (b : Int)] rfl rfl (by rw [← hSz.out]; exact cells_new _ _ _) (fun v hv => by simp at hv; subst hv; rfl) (by unfold maxLen; omega) (by omega) (by simp; omega) ?_; intro v' w6 hown6 hgrow6 hnil6 hloc6; clear hi9 hz0 hz1 hz2 hnil6; obtain ⟨gr, cap6, rfl⟩ := form_succ hown6)
            | fail)
          have hgA : ((wq.setCell ⟨gb, b, none⟩ (.bool true)).alloc (.cells #[.int .i64 (b : Int)] 3)).grownBy w6 (Value.ownBlock (.slice q2 k c2)) := hgrow6
          have hrow6 : Hid (w6.ownsRow w1.heap.size 3 1 (.slice (some ⟨gr, 0, none⟩) (k + 1) cap6) (k + 1) (numf (pgd (P ++ [b])) (k + 1))) := by
            have h9 := hown6
            rw [pgd_snoc hD.out.len]
            exact h9
          have hdn6 : Hid (w6.ownsRow gb 4 1 (.slice (some ⟨gb, 0, none⟩) i i) i (bof (P ++ [b]) i)) := (hdS.out.alloc _).kept hgA (Or.inr fun e => by have h1 := (hrS.lt gb e.symm).1; have h2 := hglH.out; omega)
          have hw6 : Hid (Below gb w w6 ∧ w1.heap.size ≤ w6.heap.size) := ⟨below_app hbS.out.1 hrS hgA (Nat.le_of_lt hglH.out) hbS.out.2, by have h1 := hgA.size; have h2 := hbS.out.2; simp at h1; simp [World.setCell] at h1 h2; omega⟩
          refine ⟨⟨k + 1, P ++ [b], some ⟨gr, 0, none⟩, cap6, ?_, rfl, hkH.out, hD2H.out, hrow6.out, hdn6.out, hw6.out⟩, ?_⟩
          · first | exact int_succ k | exact int_wsucc hk5.out
          · first | exact meas_1 hkH.out | exact meas_w hkH.out hk5.out
    · have hkz : ¬ (k : Int) < (n : Int) := by omega
      have e : k = n := by have := hkn.out; omega
      subst e
      go_wp2
      go_ret
      rw [hgbH.out]
      exact ⟨hDW.out P q2 c2 _ hD.out (owns_base' hrow.out (Nat.le_of_lt hglH.out)), hbl.out.1⟩
end Go.Proofs.Ytfnkboegbclnaaa
