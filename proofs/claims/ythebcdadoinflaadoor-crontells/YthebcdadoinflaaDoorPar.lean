/- What package cron's Parse answers, for every text: a contract, proved by a walk over its own text. -/
import Derived.Test.YthebcdadoinflaaDoorRde
namespace Go.Proofs.YthebcdadoinflaaDoor
open Go.RowKit Cal Crn Txt

set_option maxHeartbeats 400000 in
theorem Parse_large (s : ByteArray) (w : World) (hs : 200 < s.size) :
    Calls Tryd.prog 7 #[.string s] w fun e w' => e = .returned (.tuple #[.agg #[.int .u64 0, .int .u64 0, .int .u64 0, .int .u64 0, .int .u64 0], .int .i64 2]) ∧ Below w.heap.size w w' := by
  go_enter Tryd.func7, Tryd.ntmps7
  go_wp2
  exact bodyPost_ret (v := .tuple #[.agg #[.int .u64 0, .int .u64 0, .int .u64 0, .int .u64 0, .int .u64 0], .int .i64 2]) (by simp [results, Tryd.results7, go_sem]) rfl ⟨rfl, below_box w _⟩

set_option maxHeartbeats 800000 in
theorem Parse_few (l : List UInt8) (w : World) (hT : Tx w) (hl : l.length ≤ 200) (h5 : (((sp 32 l).length : Int) == 5) = false) :
    Calls Tryd.prog 7 #[.string ⟨l.toArray⟩] w fun e w' => e = .returned (.tuple #[.agg #[.int .u64 0, .int .u64 0, .int .u64 0, .int .u64 0, .int .u64 0], .int .i64 3]) ∧ Below w.heap.size w w' := by
  have c := fun o => split_any l 32 (w.alloc o) (hT.alloc o) hl
  have hs : (ByteArray.mk l.toArray).size ≤ 200 := by rw [mk_size]; exact hl
  generalize ByteArray.mk l.toArray = s at *
  generalize sp 32 l = ls at *
  go_enter Tryd.func7, Tryd.ntmps7
  go_wp2_with (first | (go_at_call 16; refine (c _).mono ?_; rintro e w' ⟨rfl, rfl⟩))
  exact bodyPost_ret (v := .tuple #[.agg #[.int .u64 0, .int .u64 0, .int .u64 0, .int .u64 0, .int .u64 0], .int .i64 3]) (by simp [results, Tryd.results7, go_sem]) rfl ⟨rfl, (below_box w _).alloc (by simp) _⟩

/-- The sets that have been read so far. -/
def vk (l : List UInt8) (k j : Nat) : Nat := if j < k then (fldO l j).getD 0 else 0
theorem blk_cell {w : World} {g : Nat} {cs : Array Value} {t : TypeId} {fr : Nat × Nat} (h : w.heap[g]? = some (.cells cs t fr)) (i : Nat) : w.cell? ⟨g, i, none⟩ = cs[i]? := by simp [World.cell?, h]
theorem blk_frozen {w : World} {g : Nat} {cs : Array Value} {t : TypeId} (h : w.heap[g]? = some (.cells cs t (0, 0))) (i : Nat) : w.frozen? ⟨g, i, none⟩ = false := by simp [World.frozen?, h]
theorem blk_set {w : World} {g i : Nat} {cs : Array Value} {t : TypeId} {fr : Nat × Nat} (h : w.heap[g]? = some (.cells cs t fr)) (v : Value) : (w.setCell ⟨g, i, none⟩ v).heap[g]? = some (.cells (cs.setIfInBounds i v) t fr) := by
  simp [World.setCell, Array.getElem?_modify, h]
theorem blk_new (w : World) (o : Obj) : (w.alloc o).heap[w.heap.size]? = some o := by
  show (w.heap.push o)[w.heap.size]? = _
  simp

theorem blk_lt {w : World} {g : Nat} {o : Obj} (h : w.heap[g]? = some o) : g < w.heap.size := by
  rcases Nat.lt_or_ge g w.heap.size with l | l
  · exact l
  · exfalso
    have e : w.heap[g]? = none := by simp; exact l
    rw [e] at h
    cases h
theorem at_start (w : World) (l : List UInt8) (T : TypeId) (o1 : Obj) : ∀ o2 : Obj, (((w.alloc o1).alloc o2).alloc (.cells #[.int .u64 0, .int .u64 0, .int .u64 0, .int .u64 0, .int .u64 0] T)).heap[w.heap.size + 1 + 1]? = some (.cells #[.int .u64 (vk l 0 0 : Nat), .int .u64 (vk l 0 1 : Nat), .int .u64 (vk l 0 2 : Nat), .int .u64 (vk l 0 3 : Nat), .int .u64 (vk l 0 4 : Nat)] T (0, 0)) := by
  intro o2
  have e := blk_new ((w.alloc o1).alloc o2) (.cells #[.int .u64 0, .int .u64 0, .int .u64 0, .int .u64 0, .int .u64 0] T)
  rw [show ((w.alloc o1).alloc o2).heap.size = w.heap.size + 1 + 1 by simp] at e
  exact e
theorem b0_cell (w : World) (T : TypeId) (o2 : Obj) (i : Nat) (hi : i < 5) : ((w.alloc (.cells #[.int .u64 0, .int .u64 0, .int .u64 0, .int .u64 0, .int .u64 0] T)).alloc o2).cell? ⟨w.heap.size, i, none⟩ = some (.int .u64 0) := by
  rw [(below_box (w.alloc (.cells #[.int .u64 0, .int .u64 0, .int .u64 0, .int .u64 0, .int .u64 0] T)) o2).cell (p := ⟨w.heap.size, i, none⟩) (by simp), blk_cell (blk_new w _) i]
  rcases (show i = 0 ∨ i = 1 ∨ i = 2 ∨ i = 3 ∨ i = 4 by omega) with e | e | e | e | e <;> subst e <;> rfl
theorem b0_frozen (w : World) (T : TypeId) (o2 : Obj) (i : Nat) : ((w.alloc (.cells #[.int .u64 0, .int .u64 0, .int .u64 0, .int .u64 0, .int .u64 0] T)).alloc o2).frozen? ⟨w.heap.size, i, none⟩ = false := by
  rw [(below_box (w.alloc (.cells #[.int .u64 0, .int .u64 0, .int .u64 0, .int .u64 0, .int .u64 0] T)) o2).frozen (p := ⟨w.heap.size, i, none⟩) (by simp), blk_frozen (blk_new w _) i]
theorem vk_at {l : List UInt8} {k j : Nat} (h : ∀ i, i < k → ∃ v, fldO l i = some v) (hj : j < k) : fldO l j = some (vk l k j) := by
  obtain ⟨v, e⟩ := h j hj
  unfold vk
  rw [if_pos hj, e]
  rfl
theorem vk_snoc {l : List UInt8} {k v : Nat} (h : ∀ i, i < k → ∃ v, fldO l i = some v) (hv : fldO l k = some v) : ∀ i, i < k + 1 → ∃ v, fldO l i = some v := by
  intro i hi
  rcases (show i < k ∨ i = k by omega) with e | e
  · exact h i e
  · rw [e]; exact ⟨v, hv⟩
set_option maxHeartbeats 4000000 in
theorem Parse_five (l : List UInt8) (w : World) (hT : Tx w) (hl : l.length ≤ 200) (h5 : (sp 32 l).length = 5) :
    Calls Tryd.prog 7 #[.string ⟨l.toArray⟩] w fun e w' => ((e = .returned (.tuple #[.agg #[.int .u64 0, .int .u64 0, .int .u64 0, .int .u64 0, .int .u64 0], .int .i64 3]) ∧ prsO l = none) ∨ (∃ c : Cr, e = .returned (.tuple #[.agg #[.int .u64 c.mi, .int .u64 c.ho, .int .u64 c.dm, .int .u64 c.mo, .int .u64 c.dw], .int .i64 0]) ∧ prsO l = some c)) ∧ Below w.heap.size w w' := by
  have c := fun o => split_any l 32 (w.alloc o) (hT.alloc o) hl
  have hs : (ByteArray.mk l.toArray).size ≤ 200 := by rw [mk_size]; exact hl
  have hmem := sp_len 32 l
  have H5 : Hid ((sp 32 l).length = 5) := h5
  rw [h5] at c
  generalize ByteArray.mk l.toArray = s at *
  go_enter Tryd.func7, Tryd.ntmps7
  go_wp2_with (first | (go_at_call 16; refine (c _).mono ?_; rintro e w' ⟨rfl, rfl⟩))
  clear h5
  go_loopw [22] (fun i wr => ∃ k : Nat, i = .int .i64 k ∧ k ≤ 5 ∧ Hid (∀ j, j < k → ∃ v, fldO l j = some v) ∧ wr.heap[w.heap.size + 1 + 1]? = some (.cells #[.int .u64 (vk l k 0 : Nat), .int .u64 (vk l k 1 : Nat), .int .u64 (vk l k 2 : Nat), .int .u64 (vk l k 3 : Nat), .int .u64 (vk l k 4 : Nat)] 37 (0, 0)) ∧ Below (w.heap.size + 1 + 1) ((w.alloc (.cells #[.int .u64 0, .int .u64 0, .int .u64 0, .int .u64 0, .int .u64 0] 24)).alloc (.cells (cellsP (sp 32 l)) 9)) wr) (fun i _ => 5 - (intOf i).toNat)
  case atStart => exact ⟨0, rfl, by omega, (fun j hj => by omega), at_start w l _ _ _, (Below.refl _ _).alloc (by simp) _⟩
  case round =>
    obtain ⟨k, rfl, hk, hv, hblk, hB⟩ := hrel
    have hTr : Tx wr := ((hT.alloc _).alloc _).below hB (by simp)
    obtain ⟨hcl, hfz⟩ := bcell hB
    have hb2 : w.heap.size + 1 + 1 < wr.heap.size := blk_lt hblk
    have hbw := ((below_box w (.cells #[.int .u64 0, .int .u64 0, .int .u64 0, .int .u64 0, .int .u64 0] 24)).alloc (by simp) (.cells (cellsP (sp 32 l)) 9)).trans (hB.mono (by omega))
    have hpc : ∀ i, i < 5 → wr.cell? ⟨w.heap.size + 1, i, none⟩ = some (.string ⟨((sp 32 l).getD i []).toArray⟩) := by
      intro i hi
      have hp := piece_at (w.alloc (.cells #[.int .u64 0, .int .u64 0, .int .u64 0, .int .u64 0, .int .u64 0] 24)) (sp 32 l) 9 (k := i) (by rw [H5.out]; exact hi)
      rw [show (w.alloc (.cells #[.int .u64 0, .int .u64 0, .int .u64 0, .int .u64 0, .int .u64 0] 24)).heap.size = w.heap.size + 1 by simp] at hp
      rw [hcl _ _ (by omega)]
      exact hp
    have hx : ∀ i, i < 5 → ((sp 32 l).getD i []).length ≤ 200 := fun i hi => by
      have := hmem _ (mem_getD (k := i) (by rw [H5.out]; exact hi))
      omega
    rcases (show k = 5 ∨ k = 0 ∨ k = 1 ∨ k = 2 ∨ k = 3 ∨ k = 4 by omega) with e | e | e | e | e | e <;> subst e
    · clear hpc hcl hfz
      have z0 : wr.cell? ⟨w.heap.size, 0, none⟩ = some (.int .u64 0) := by rw [hB.cell (p := ⟨w.heap.size, 0, none⟩) (by simp; omega)]; exact b0_cell w _ _ 0 (by omega)
      have y0 : wr.frozen? ⟨w.heap.size, 0, none⟩ = false := by rw [hB.frozen (p := ⟨w.heap.size, 0, none⟩) (by simp; omega)]; exact b0_frozen w _ _ 0
      have z1 : wr.cell? ⟨w.heap.size, 1, none⟩ = some (.int .u64 0) := by rw [hB.cell (p := ⟨w.heap.size, 1, none⟩) (by simp; omega)]; exact b0_cell w _ _ 1 (by omega)
      have y1 : wr.frozen? ⟨w.heap.size, 1, none⟩ = false := by rw [hB.frozen (p := ⟨w.heap.size, 1, none⟩) (by simp; omega)]; exact b0_frozen w _ _ 1
      have z2 : wr.cell? ⟨w.heap.size, 2, none⟩ = some (.int .u64 0) := by rw [hB.cell (p := ⟨w.heap.size, 2, none⟩) (by simp; omega)]; exact b0_cell w _ _ 2 (by omega)
      have y2 : wr.frozen? ⟨w.heap.size, 2, none⟩ = false := by rw [hB.frozen (p := ⟨w.heap.size, 2, none⟩) (by simp; omega)]; exact b0_frozen w _ _ 2
      have z3 : wr.cell? ⟨w.heap.size, 3, none⟩ = some (.int .u64 0) := by rw [hB.cell (p := ⟨w.heap.size, 3, none⟩) (by simp; omega)]; exact b0_cell w _ _ 3 (by omega)
      have y3 : wr.frozen? ⟨w.heap.size, 3, none⟩ = false := by rw [hB.frozen (p := ⟨w.heap.size, 3, none⟩) (by simp; omega)]; exact b0_frozen w _ _ 3
      have z4 : wr.cell? ⟨w.heap.size, 4, none⟩ = some (.int .u64 0) := by rw [hB.cell (p := ⟨w.heap.size, 4, none⟩) (by simp; omega)]; exact b0_cell w _ _ 4 (by omega)
      have y4 : wr.frozen? ⟨w.heap.size, 4, none⟩ = false := by rw [hB.frozen (p := ⟨w.heap.size, 4, none⟩) (by simp; omega)]; exact b0_frozen w _ _ 4
      have d0 : wr.cell? ⟨w.heap.size + 1 + 1, 0, none⟩ = some (.int .u64 (vk l 5 0 : Nat)) := blk_cell hblk 0
      have d1 : wr.cell? ⟨w.heap.size + 1 + 1, 1, none⟩ = some (.int .u64 (vk l 5 1 : Nat)) := blk_cell hblk 1
      have d2 : wr.cell? ⟨w.heap.size + 1 + 1, 2, none⟩ = some (.int .u64 (vk l 5 2 : Nat)) := blk_cell hblk 2
      have d3 : wr.cell? ⟨w.heap.size + 1 + 1, 3, none⟩ = some (.int .u64 (vk l 5 3 : Nat)) := blk_cell hblk 3
      have d4 : wr.cell? ⟨w.heap.size + 1 + 1, 4, none⟩ = some (.int .u64 (vk l 5 4 : Nat)) := blk_cell hblk 4
      have hP : Hid (prsO l = some ⟨vk l 5 0, vk l 5 1, vk l 5 2, vk l 5 3, vk l 5 4⟩) := prs_some H5.out (vk_at hv.out (by omega)) (vk_at hv.out (by omega)) (vk_at hv.out (by omega)) (vk_at hv.out (by omega)) (vk_at hv.out (by omega))
      generalize vk l 5 0 = x0 at *
      generalize vk l 5 1 = x1 at *
      generalize vk l 5 2 = x2 at *
      generalize vk l 5 3 = x3 at *
      generalize vk l 5 4 = x4 at *
      clear hblk
      go_wp2_with fail
      exact bodyPost_ret (v := .tuple #[.agg #[.int .u64 x0, .int .u64 x1, .int .u64 x2, .int .u64 x3, .int .u64 x4], .int .i64 0]) (by simp [results, Tryd.results7, go_sem, z0, z1, z2, z3, z4]) rfl ⟨Or.inr ⟨⟨x0, x1, x2, x3, x4⟩, rfl, hP.out⟩, (((((hbw).setCell (Nat.le_refl _) _).setCell (Nat.le_refl _) _).setCell (Nat.le_refl _) _).setCell (Nat.le_refl _) _).setCell (Nat.le_refl _) _⟩
    · have hp := hpc 0 (by omega)
      have hxl := hx 0 (by omega)
      have hcell := hTr.c.1
      clear hpc hx hcl hfz
      generalize hxe : (sp 32 l).getD 0 [] = x at *
      have hr : ∃ r, fldO l 0 = r := ⟨_, rfl⟩
      obtain ⟨r, hr⟩ := hr
      have HR : Hid (setO 0 59 x = r) := by rw [← hxe]; exact hr
      have HF : Hid (fldO l 0 = r) := hr
      clear hr hxe
      go_wp2_with fail
      refine (readSet_any 1152921504606846975 0 59 al0 x hxl r HR _ hTr).mono ?_
      rintro e w3 ⟨rfl, hb3⟩
      have hB3 : Below (w.heap.size + 1 + 1) ((w.alloc (.cells #[.int .u64 0, .int .u64 0, .int .u64 0, .int .u64 0, .int .u64 0] 24)).alloc (.cells (cellsP (sp 32 l)) 9)) w3 := hB.trans (hb3.mono (by omega))
      have hblk3 := (hb3.block _ hb2).trans hblk
      cases r with
      | none =>
        have z0 : w3.cell? ⟨w.heap.size, 0, none⟩ = some (.int .u64 0) := by rw [hB3.cell (p := ⟨w.heap.size, 0, none⟩) (by simp; omega)]; exact b0_cell w _ _ 0 (by omega)
        have y0 : w3.frozen? ⟨w.heap.size, 0, none⟩ = false := by rw [hB3.frozen (p := ⟨w.heap.size, 0, none⟩) (by simp; omega)]; exact b0_frozen w _ _ 0
        have z1 : w3.cell? ⟨w.heap.size, 1, none⟩ = some (.int .u64 0) := by rw [hB3.cell (p := ⟨w.heap.size, 1, none⟩) (by simp; omega)]; exact b0_cell w _ _ 1 (by omega)
        have y1 : w3.frozen? ⟨w.heap.size, 1, none⟩ = false := by rw [hB3.frozen (p := ⟨w.heap.size, 1, none⟩) (by simp; omega)]; exact b0_frozen w _ _ 1
        have z2 : w3.cell? ⟨w.heap.size, 2, none⟩ = some (.int .u64 0) := by rw [hB3.cell (p := ⟨w.heap.size, 2, none⟩) (by simp; omega)]; exact b0_cell w _ _ 2 (by omega)
        have y2 : w3.frozen? ⟨w.heap.size, 2, none⟩ = false := by rw [hB3.frozen (p := ⟨w.heap.size, 2, none⟩) (by simp; omega)]; exact b0_frozen w _ _ 2
        have z3 : w3.cell? ⟨w.heap.size, 3, none⟩ = some (.int .u64 0) := by rw [hB3.cell (p := ⟨w.heap.size, 3, none⟩) (by simp; omega)]; exact b0_cell w _ _ 3 (by omega)
        have y3 : w3.frozen? ⟨w.heap.size, 3, none⟩ = false := by rw [hB3.frozen (p := ⟨w.heap.size, 3, none⟩) (by simp; omega)]; exact b0_frozen w _ _ 3
        have z4 : w3.cell? ⟨w.heap.size, 4, none⟩ = some (.int .u64 0) := by rw [hB3.cell (p := ⟨w.heap.size, 4, none⟩) (by simp; omega)]; exact b0_cell w _ _ 4 (by omega)
        have y4 : w3.frozen? ⟨w.heap.size, 4, none⟩ = false := by rw [hB3.frozen (p := ⟨w.heap.size, 4, none⟩) (by simp; omega)]; exact b0_frozen w _ _ 4
        go_wp2_with fail
        exact bodyPost_ret (v := .tuple #[.agg #[.int .u64 0, .int .u64 0, .int .u64 0, .int .u64 0, .int .u64 0], .int .i64 3]) (by simp [results, Tryd.results7, go_sem, z0, z1, z2, z3, z4]) rfl ⟨Or.inl ⟨rfl, prs_none (k := 0) (by omega) HF.out⟩, (((((hbw.trans (hb3.mono (by omega))).setCell (Nat.le_refl _) _).setCell (Nat.le_refl _) _).setCell (Nat.le_refl _) _).setCell (Nat.le_refl _) _).setCell (Nat.le_refl _) _⟩
      | some v =>
        have dk : w3.cell? ⟨w.heap.size + 1 + 1, 0, none⟩ = some (.int .u64 (vk l 0 0 : Nat)) := blk_cell hblk3 0
        have fk : w3.frozen? ⟨w.heap.size + 1 + 1, 0, none⟩ = false := blk_frozen hblk3 0
        go_wp2_with fail
        go_roundw
        case rel => exact ⟨1, by go_num, by omega, vk_snoc hv.out HF.out, (blk_set hblk3 _).trans (by simp [vk, HF.out]), hB3.setCell (by simp) _⟩
        case measure => simp [intOf]
    · have hp := hpc 1 (by omega)
      have hxl := hx 1 (by omega)
      have hcell := hTr.c.2.1
      clear hpc hx hcl hfz
      generalize hxe : (sp 32 l).getD 1 [] = x at *
      have hr : ∃ r, fldO l 1 = r := ⟨_, rfl⟩
      obtain ⟨r, hr⟩ := hr
      have HR : Hid (setO 0 23 x = r) := by rw [← hxe]; exact hr
      have HF : Hid (fldO l 1 = r) := hr
      clear hr hxe
      go_wp2_with fail
      refine (readSet_any 16777215 0 23 al1 x hxl r HR _ hTr).mono ?_
      rintro e w3 ⟨rfl, hb3⟩
      have hB3 : Below (w.heap.size + 1 + 1) ((w.alloc (.cells #[.int .u64 0, .int .u64 0, .int .u64 0, .int .u64 0, .int .u64 0] 24)).alloc (.cells (cellsP (sp 32 l)) 9)) w3 := hB.trans (hb3.mono (by omega))
      have hblk3 := (hb3.block _ hb2).trans hblk
      cases r with
      | none =>
        have z0 : w3.cell? ⟨w.heap.size, 0, none⟩ = some (.int .u64 0) := by rw [hB3.cell (p := ⟨w.heap.size, 0, none⟩) (by simp; omega)]; exact b0_cell w _ _ 0 (by omega)
        have y0 : w3.frozen? ⟨w.heap.size, 0, none⟩ = false := by rw [hB3.frozen (p := ⟨w.heap.size, 0, none⟩) (by simp; omega)]; exact b0_frozen w _ _ 0
        have z1 : w3.cell? ⟨w.heap.size, 1, none⟩ = some (.int .u64 0) := by rw [hB3.cell (p := ⟨w.heap.size, 1, none⟩) (by simp; omega)]; exact b0_cell w _ _ 1 (by omega)
        have y1 : w3.frozen? ⟨w.heap.size, 1, none⟩ = false := by rw [hB3.frozen (p := ⟨w.heap.size, 1, none⟩) (by simp; omega)]; exact b0_frozen w _ _ 1
        have z2 : w3.cell? ⟨w.heap.size, 2, none⟩ = some (.int .u64 0) := by rw [hB3.cell (p := ⟨w.heap.size, 2, none⟩) (by simp; omega)]; exact b0_cell w _ _ 2 (by omega)
        have y2 : w3.frozen? ⟨w.heap.size, 2, none⟩ = false := by rw [hB3.frozen (p := ⟨w.heap.size, 2, none⟩) (by simp; omega)]; exact b0_frozen w _ _ 2
        have z3 : w3.cell? ⟨w.heap.size, 3, none⟩ = some (.int .u64 0) := by rw [hB3.cell (p := ⟨w.heap.size, 3, none⟩) (by simp; omega)]; exact b0_cell w _ _ 3 (by omega)
        have y3 : w3.frozen? ⟨w.heap.size, 3, none⟩ = false := by rw [hB3.frozen (p := ⟨w.heap.size, 3, none⟩) (by simp; omega)]; exact b0_frozen w _ _ 3
        have z4 : w3.cell? ⟨w.heap.size, 4, none⟩ = some (.int .u64 0) := by rw [hB3.cell (p := ⟨w.heap.size, 4, none⟩) (by simp; omega)]; exact b0_cell w _ _ 4 (by omega)
        have y4 : w3.frozen? ⟨w.heap.size, 4, none⟩ = false := by rw [hB3.frozen (p := ⟨w.heap.size, 4, none⟩) (by simp; omega)]; exact b0_frozen w _ _ 4
        go_wp2_with fail
        exact bodyPost_ret (v := .tuple #[.agg #[.int .u64 0, .int .u64 0, .int .u64 0, .int .u64 0, .int .u64 0], .int .i64 3]) (by simp [results, Tryd.results7, go_sem, z0, z1, z2, z3, z4]) rfl ⟨Or.inl ⟨rfl, prs_none (k := 1) (by omega) HF.out⟩, (((((hbw.trans (hb3.mono (by omega))).setCell (Nat.le_refl _) _).setCell (Nat.le_refl _) _).setCell (Nat.le_refl _) _).setCell (Nat.le_refl _) _).setCell (Nat.le_refl _) _⟩
      | some v =>
        have dk : w3.cell? ⟨w.heap.size + 1 + 1, 1, none⟩ = some (.int .u64 (vk l 1 1 : Nat)) := blk_cell hblk3 1
        have fk : w3.frozen? ⟨w.heap.size + 1 + 1, 1, none⟩ = false := blk_frozen hblk3 1
        go_wp2_with fail
        go_roundw
        case rel => exact ⟨2, by go_num, by omega, vk_snoc hv.out HF.out, (blk_set hblk3 _).trans (by simp [vk, HF.out]), hB3.setCell (by simp) _⟩
        case measure => simp [intOf]
    · have hp := hpc 2 (by omega)
      have hxl := hx 2 (by omega)
      have hcell := hTr.c.2.2.1
      clear hpc hx hcl hfz
      generalize hxe : (sp 32 l).getD 2 [] = x at *
      have hr : ∃ r, fldO l 2 = r := ⟨_, rfl⟩
      obtain ⟨r, hr⟩ := hr
      have HR : Hid (setO 1 31 x = r) := by rw [← hxe]; exact hr
      have HF : Hid (fldO l 2 = r) := hr
      clear hr hxe
      go_wp2_with fail
      refine (readSet_any 4294967294 1 31 al2 x hxl r HR _ hTr).mono ?_
      rintro e w3 ⟨rfl, hb3⟩
      have hB3 : Below (w.heap.size + 1 + 1) ((w.alloc (.cells #[.int .u64 0, .int .u64 0, .int .u64 0, .int .u64 0, .int .u64 0] 24)).alloc (.cells (cellsP (sp 32 l)) 9)) w3 := hB.trans (hb3.mono (by omega))
      have hblk3 := (hb3.block _ hb2).trans hblk
      cases r with
      | none =>
        have z0 : w3.cell? ⟨w.heap.size, 0, none⟩ = some (.int .u64 0) := by rw [hB3.cell (p := ⟨w.heap.size, 0, none⟩) (by simp; omega)]; exact b0_cell w _ _ 0 (by omega)
        have y0 : w3.frozen? ⟨w.heap.size, 0, none⟩ = false := by rw [hB3.frozen (p := ⟨w.heap.size, 0, none⟩) (by simp; omega)]; exact b0_frozen w _ _ 0
        have z1 : w3.cell? ⟨w.heap.size, 1, none⟩ = some (.int .u64 0) := by rw [hB3.cell (p := ⟨w.heap.size, 1, none⟩) (by simp; omega)]; exact b0_cell w _ _ 1 (by omega)
        have y1 : w3.frozen? ⟨w.heap.size, 1, none⟩ = false := by rw [hB3.frozen (p := ⟨w.heap.size, 1, none⟩) (by simp; omega)]; exact b0_frozen w _ _ 1
        have z2 : w3.cell? ⟨w.heap.size, 2, none⟩ = some (.int .u64 0) := by rw [hB3.cell (p := ⟨w.heap.size, 2, none⟩) (by simp; omega)]; exact b0_cell w _ _ 2 (by omega)
        have y2 : w3.frozen? ⟨w.heap.size, 2, none⟩ = false := by rw [hB3.frozen (p := ⟨w.heap.size, 2, none⟩) (by simp; omega)]; exact b0_frozen w _ _ 2
        have z3 : w3.cell? ⟨w.heap.size, 3, none⟩ = some (.int .u64 0) := by rw [hB3.cell (p := ⟨w.heap.size, 3, none⟩) (by simp; omega)]; exact b0_cell w _ _ 3 (by omega)
        have y3 : w3.frozen? ⟨w.heap.size, 3, none⟩ = false := by rw [hB3.frozen (p := ⟨w.heap.size, 3, none⟩) (by simp; omega)]; exact b0_frozen w _ _ 3
        have z4 : w3.cell? ⟨w.heap.size, 4, none⟩ = some (.int .u64 0) := by rw [hB3.cell (p := ⟨w.heap.size, 4, none⟩) (by simp; omega)]; exact b0_cell w _ _ 4 (by omega)
        have y4 : w3.frozen? ⟨w.heap.size, 4, none⟩ = false := by rw [hB3.frozen (p := ⟨w.heap.size, 4, none⟩) (by simp; omega)]; exact b0_frozen w _ _ 4
        go_wp2_with fail
        exact bodyPost_ret (v := .tuple #[.agg #[.int .u64 0, .int .u64 0, .int .u64 0, .int .u64 0, .int .u64 0], .int .i64 3]) (by simp [results, Tryd.results7, go_sem, z0, z1, z2, z3, z4]) rfl ⟨Or.inl ⟨rfl, prs_none (k := 2) (by omega) HF.out⟩, (((((hbw.trans (hb3.mono (by omega))).setCell (Nat.le_refl _) _).setCell (Nat.le_refl _) _).setCell (Nat.le_refl _) _).setCell (Nat.le_refl _) _).setCell (Nat.le_refl _) _⟩
      | some v =>
        have dk : w3.cell? ⟨w.heap.size + 1 + 1, 2, none⟩ = some (.int .u64 (vk l 2 2 : Nat)) := blk_cell hblk3 2
        have fk : w3.frozen? ⟨w.heap.size + 1 + 1, 2, none⟩ = false := blk_frozen hblk3 2
        go_wp2_with fail
        go_roundw
        case rel => exact ⟨3, by go_num, by omega, vk_snoc hv.out HF.out, (blk_set hblk3 _).trans (by simp [vk, HF.out]), hB3.setCell (by simp) _⟩
        case measure => simp [intOf]
    · have hp := hpc 3 (by omega)
      have hxl := hx 3 (by omega)
      have hcell := hTr.c.2.2.2.1
      clear hpc hx hcl hfz
      generalize hxe : (sp 32 l).getD 3 [] = x at *
      have hr : ∃ r, fldO l 3 = r := ⟨_, rfl⟩
      obtain ⟨r, hr⟩ := hr
      have HR : Hid (setO 1 12 x = r) := by rw [← hxe]; exact hr
      have HF : Hid (fldO l 3 = r) := hr
      clear hr hxe
      go_wp2_with fail
      refine (readSet_any 8190 1 12 al3 x hxl r HR _ hTr).mono ?_
      rintro e w3 ⟨rfl, hb3⟩
      have hB3 : Below (w.heap.size + 1 + 1) ((w.alloc (.cells #[.int .u64 0, .int .u64 0, .int .u64 0, .int .u64 0, .int .u64 0] 24)).alloc (.cells (cellsP (sp 32 l)) 9)) w3 := hB.trans (hb3.mono (by omega))
      have hblk3 := (hb3.block _ hb2).trans hblk
      cases r with
      | none =>
        have z0 : w3.cell? ⟨w.heap.size, 0, none⟩ = some (.int .u64 0) := by rw [hB3.cell (p := ⟨w.heap.size, 0, none⟩) (by simp; omega)]; exact b0_cell w _ _ 0 (by omega)
        have y0 : w3.frozen? ⟨w.heap.size, 0, none⟩ = false := by rw [hB3.frozen (p := ⟨w.heap.size, 0, none⟩) (by simp; omega)]; exact b0_frozen w _ _ 0
        have z1 : w3.cell? ⟨w.heap.size, 1, none⟩ = some (.int .u64 0) := by rw [hB3.cell (p := ⟨w.heap.size, 1, none⟩) (by simp; omega)]; exact b0_cell w _ _ 1 (by omega)
        have y1 : w3.frozen? ⟨w.heap.size, 1, none⟩ = false := by rw [hB3.frozen (p := ⟨w.heap.size, 1, none⟩) (by simp; omega)]; exact b0_frozen w _ _ 1
        have z2 : w3.cell? ⟨w.heap.size, 2, none⟩ = some (.int .u64 0) := by rw [hB3.cell (p := ⟨w.heap.size, 2, none⟩) (by simp; omega)]; exact b0_cell w _ _ 2 (by omega)
        have y2 : w3.frozen? ⟨w.heap.size, 2, none⟩ = false := by rw [hB3.frozen (p := ⟨w.heap.size, 2, none⟩) (by simp; omega)]; exact b0_frozen w _ _ 2
        have z3 : w3.cell? ⟨w.heap.size, 3, none⟩ = some (.int .u64 0) := by rw [hB3.cell (p := ⟨w.heap.size, 3, none⟩) (by simp; omega)]; exact b0_cell w _ _ 3 (by omega)
        have y3 : w3.frozen? ⟨w.heap.size, 3, none⟩ = false := by rw [hB3.frozen (p := ⟨w.heap.size, 3, none⟩) (by simp; omega)]; exact b0_frozen w _ _ 3
        have z4 : w3.cell? ⟨w.heap.size, 4, none⟩ = some (.int .u64 0) := by rw [hB3.cell (p := ⟨w.heap.size, 4, none⟩) (by simp; omega)]; exact b0_cell w _ _ 4 (by omega)
        have y4 : w3.frozen? ⟨w.heap.size, 4, none⟩ = false := by rw [hB3.frozen (p := ⟨w.heap.size, 4, none⟩) (by simp; omega)]; exact b0_frozen w _ _ 4
        go_wp2_with fail
        exact bodyPost_ret (v := .tuple #[.agg #[.int .u64 0, .int .u64 0, .int .u64 0, .int .u64 0, .int .u64 0], .int .i64 3]) (by simp [results, Tryd.results7, go_sem, z0, z1, z2, z3, z4]) rfl ⟨Or.inl ⟨rfl, prs_none (k := 3) (by omega) HF.out⟩, (((((hbw.trans (hb3.mono (by omega))).setCell (Nat.le_refl _) _).setCell (Nat.le_refl _) _).setCell (Nat.le_refl _) _).setCell (Nat.le_refl _) _).setCell (Nat.le_refl _) _⟩
      | some v =>
        have dk : w3.cell? ⟨w.heap.size + 1 + 1, 3, none⟩ = some (.int .u64 (vk l 3 3 : Nat)) := blk_cell hblk3 3
        have fk : w3.frozen? ⟨w.heap.size + 1 + 1, 3, none⟩ = false := blk_frozen hblk3 3
        go_wp2_with fail
        go_roundw
        case rel => exact ⟨4, by go_num, by omega, vk_snoc hv.out HF.out, (blk_set hblk3 _).trans (by simp [vk, HF.out]), hB3.setCell (by simp) _⟩
        case measure => simp [intOf]
    · have hp := hpc 4 (by omega)
      have hxl := hx 4 (by omega)
      have hcell := hTr.c.2.2.2.2
      clear hpc hx hcl hfz
      generalize hxe : (sp 32 l).getD 4 [] = x at *
      have hr : ∃ r, fldO l 4 = r := ⟨_, rfl⟩
      obtain ⟨r, hr⟩ := hr
      have HR : Hid (setO 0 6 x = r) := by rw [← hxe]; exact hr
      have HF : Hid (fldO l 4 = r) := hr
      clear hr hxe
      go_wp2_with fail
      refine (readSet_any 127 0 6 al4 x hxl r HR _ hTr).mono ?_
      rintro e w3 ⟨rfl, hb3⟩
      have hB3 : Below (w.heap.size + 1 + 1) ((w.alloc (.cells #[.int .u64 0, .int .u64 0, .int .u64 0, .int .u64 0, .int .u64 0] 24)).alloc (.cells (cellsP (sp 32 l)) 9)) w3 := hB.trans (hb3.mono (by omega))
      have hblk3 := (hb3.block _ hb2).trans hblk
      cases r with
      | none =>
        have z0 : w3.cell? ⟨w.heap.size, 0, none⟩ = some (.int .u64 0) := by rw [hB3.cell (p := ⟨w.heap.size, 0, none⟩) (by simp; omega)]; exact b0_cell w _ _ 0 (by omega)
        have y0 : w3.frozen? ⟨w.heap.size, 0, none⟩ = false := by rw [hB3.frozen (p := ⟨w.heap.size, 0, none⟩) (by simp; omega)]; exact b0_frozen w _ _ 0
        have z1 : w3.cell? ⟨w.heap.size, 1, none⟩ = some (.int .u64 0) := by rw [hB3.cell (p := ⟨w.heap.size, 1, none⟩) (by simp; omega)]; exact b0_cell w _ _ 1 (by omega)
        have y1 : w3.frozen? ⟨w.heap.size, 1, none⟩ = false := by rw [hB3.frozen (p := ⟨w.heap.size, 1, none⟩) (by simp; omega)]; exact b0_frozen w _ _ 1
        have z2 : w3.cell? ⟨w.heap.size, 2, none⟩ = some (.int .u64 0) := by rw [hB3.cell (p := ⟨w.heap.size, 2, none⟩) (by simp; omega)]; exact b0_cell w _ _ 2 (by omega)
        have y2 : w3.frozen? ⟨w.heap.size, 2, none⟩ = false := by rw [hB3.frozen (p := ⟨w.heap.size, 2, none⟩) (by simp; omega)]; exact b0_frozen w _ _ 2
        have z3 : w3.cell? ⟨w.heap.size, 3, none⟩ = some (.int .u64 0) := by rw [hB3.cell (p := ⟨w.heap.size, 3, none⟩) (by simp; omega)]; exact b0_cell w _ _ 3 (by omega)
        have y3 : w3.frozen? ⟨w.heap.size, 3, none⟩ = false := by rw [hB3.frozen (p := ⟨w.heap.size, 3, none⟩) (by simp; omega)]; exact b0_frozen w _ _ 3
        have z4 : w3.cell? ⟨w.heap.size, 4, none⟩ = some (.int .u64 0) := by rw [hB3.cell (p := ⟨w.heap.size, 4, none⟩) (by simp; omega)]; exact b0_cell w _ _ 4 (by omega)
        have y4 : w3.frozen? ⟨w.heap.size, 4, none⟩ = false := by rw [hB3.frozen (p := ⟨w.heap.size, 4, none⟩) (by simp; omega)]; exact b0_frozen w _ _ 4
        go_wp2_with fail
        exact bodyPost_ret (v := .tuple #[.agg #[.int .u64 0, .int .u64 0, .int .u64 0, .int .u64 0, .int .u64 0], .int .i64 3]) (by simp [results, Tryd.results7, go_sem, z0, z1, z2, z3, z4]) rfl ⟨Or.inl ⟨rfl, prs_none (k := 4) (by omega) HF.out⟩, (((((hbw.trans (hb3.mono (by omega))).setCell (Nat.le_refl _) _).setCell (Nat.le_refl _) _).setCell (Nat.le_refl _) _).setCell (Nat.le_refl _) _).setCell (Nat.le_refl _) _⟩
      | some v =>
        have dk : w3.cell? ⟨w.heap.size + 1 + 1, 4, none⟩ = some (.int .u64 (vk l 4 4 : Nat)) := blk_cell hblk3 4
        have fk : w3.frozen? ⟨w.heap.size + 1 + 1, 4, none⟩ = false := blk_frozen hblk3 4
        go_wp2_with fail
        go_roundw
        case rel => exact ⟨5, by go_num, by omega, vk_snoc hv.out HF.out, (blk_set hblk3 _).trans (by simp [vk, HF.out]), hB3.setCell (by simp) _⟩
        case measure => simp [intOf]
theorem Parse_no (l : List UInt8) (w : World) (hT : Tx w) (hl : l.length ≤ 200) (hp : prsO l = none) :
    Calls Tryd.prog 7 #[.string ⟨l.toArray⟩] w fun e w' => e = .returned (.tuple #[.agg #[.int .u64 0, .int .u64 0, .int .u64 0, .int .u64 0, .int .u64 0], .int .i64 3]) ∧ Below w.heap.size w w' := by
  by_cases h5 : (sp 32 l).length = 5
  · refine (Parse_five l w hT hl h5).mono ?_
    rintro e w' ⟨⟨rfl, _⟩ | ⟨c, rfl, h⟩, hb⟩
    · exact ⟨rfl, hb⟩
    · rw [hp] at h; cases h
  · exact Parse_few l w hT hl (by simp; omega)
theorem Parse_yes (l : List UInt8) (c : Cr) (w : World) (hT : Tx w) (hl : l.length ≤ 200) (hp : prsO l = some c) :
    Calls Tryd.prog 7 #[.string ⟨l.toArray⟩] w fun e w' => e = .returned (.tuple #[.agg #[.int .u64 c.mi, .int .u64 c.ho, .int .u64 c.dm, .int .u64 c.mo, .int .u64 c.dw], .int .i64 0]) ∧ Below w.heap.size w w' := by
  by_cases h5 : (sp 32 l).length = 5
  · refine (Parse_five l w hT hl h5).mono ?_
    rintro e w' ⟨⟨rfl, h⟩ | ⟨c', rfl, h⟩, hb⟩
    · rw [hp] at h; cases h
    · rw [hp] at h; cases h; exact ⟨rfl, hb⟩
  · rw [prs_few h5] at hp; cases hp
end Go.Proofs.YthebcdadoinflaaDoor
