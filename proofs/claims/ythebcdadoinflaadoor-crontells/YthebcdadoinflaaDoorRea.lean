/- What the reference's CronRead answers, for every text: a contract, proved by a walk over its own text. -/
import Derived.Test.YthebcdadoinflaaDoorItm
import Derived.Test.YthebcdadoinflaaDoorPar
import Derived.Test.YthebcdadoinflaaDoorRff
import Derived.Deep.RegionWith
namespace Go.Proofs.YthebcdadoinflaaDoor
open Go.RowKit Cal Crn Txt

theorem owns_base {w : World} {base n : Nat} {e : TypeId} {g cap : Nat} {xs : List Value} (h : w.ownsRow base e 1 (.slice (some ⟨g, 0, none⟩) n cap) n xs) : base ≤ g := by
  rcases h.2 with ⟨h1, _⟩ | ⟨g', cap', cur, h1, h2, _⟩
  · cases h1
  · simp only [Value.slice.injEq, Option.some.injEq, Addr.mk.injEq] at h1
    obtain ⟨⟨rfl, _, _⟩, _, _⟩ := h1
    exact h2
theorem Pieces_at (l : List UInt8) (c : UInt8) (n : Nat) (hn : (sp c l).length = n) (w : World) (hl : l.length ≤ 200) :
    Calls Tryd.prog 18 #[.string ⟨l.toArray⟩, .int .u8 c.toNat] w fun e w' => ∃ g cap : Nat, e = .returned (.slice (some ⟨g, 0, none⟩) n cap) ∧ (∀ j, j < n → w'.cell? ⟨g, j, none⟩ = some (.string ⟨((sp c l).getD j []).toArray⟩)) ∧ (w.heap.size ≤ g ∧ g < w'.heap.size) ∧ Below w.heap.size w w' := by
  refine (Pieces_any l c w hl).mono ?_
  rintro e w' ⟨g, cap, rfl, hown, hb⟩
  obtain ⟨h1, h2⟩ := owns_cell rfl hown
  have h3 := owns_base hown
  subst hn
  exact ⟨g, cap, rfl, h1, ⟨h3, h2⟩, hb⟩

/-- Five numbers in a row. -/
def row5 (f : Nat → Nat) : Array Value := #[.int .u64 (f 0 : Nat), .int .u64 (f 1 : Nat), .int .u64 (f 2 : Nat), .int .u64 (f 3 : Nat), .int .u64 (f 4 : Nat)]
theorem row5_at (f : Nat → Nat) {k : Nat} (hk : k < 5) : (row5 f)[k]? = some (.int .u64 (f k : Nat)) := by
  rcases (show k = 0 ∨ k = 1 ∨ k = 2 ∨ k = 3 ∨ k = 4 by omega) with e | e | e | e | e <;> subst e <;> rfl
theorem row5_set (f : Nat → Nat) {k : Nat} (hk : k < 5) (v : Nat) : (row5 f).setIfInBounds k (.int .u64 (v : Nat)) = row5 (fun j => if j = k then v else f j) := by
  rcases (show k = 0 ∨ k = 1 ∨ k = 2 ∨ k = 3 ∨ k = 4 by omega) with e | e | e | e | e <;> subst e <;> simp [row5]
theorem row5_congr {f g : Nat → Nat} (h : ∀ j, j < 5 → f j = g j) : row5 f = row5 g := by
  unfold row5
  rw [h 0 (by omega), h 1 (by omega), h 2 (by omega), h 3 (by omega), h 4 (by omega)]
/-- What has been read: whole sets, and a part of one. -/
def va (l : List UInt8) (k a j : Nat) : Nat := if j < k then (fldO l j).getD 0 else if j = k then a else 0
theorem fld_at (l : List UInt8) {k : Nat} (hk : k < 5) : fldO l k = setO (loI k) (hiI k) ((sp 32 l).getD k []) := by
  rcases (show k = 0 ∨ k = 1 ∨ k = 2 ∨ k = 3 ∨ k = 4 by omega) with e | e | e | e | e <;> subst e <;> rfl
theorem va_next {l : List UInt8} {k v : Nat} (h : fldO l k = some v) : ∀ j, j < 5 → va l k v j = va l (k + 1) 0 j := by
  intro j _
  unfold va
  by_cases e : j < k
  · rw [if_pos e, if_pos (by omega)]
  · rw [if_neg e]
    by_cases e2 : j = k
    · rw [if_pos e2, if_pos (by omega), e2, h]; rfl
    · rw [if_neg e2, if_neg (by omega)]
      split <;> rfl
theorem va_at {l : List UInt8} {k j : Nat} (h : ∀ i, i < k → ∃ v, fldO l i = some v) (hj : j < k) : fldO l j = some (va l k 0 j) := by
  obtain ⟨v, e⟩ := h j hj
  unfold va
  rw [if_pos hj, e]
  rfl
theorem va_set (l : List UInt8) (k a b : Nat) : ∀ j, j < 5 → (if j = k then b else va l k a j) = va l k b j := by
  intro j _
  unfold va
  by_cases e : j = k
  · rw [if_pos e, if_neg (by omega), if_pos e]
  · rw [if_neg e, if_neg (c := j = k) e, if_neg (c := j = k) e]
theorem set_other {w : World} {g g' i j : Nat} {v : Value} (h : g' ≠ g) : (w.setCell ⟨g, i, none⟩ v).cell? ⟨g', j, none⟩ = w.cell? ⟨g', j, none⟩ := by
  simp only [World.cell?]
  rw [Below.heap_setCell w _ v g' h]
theorem lo_hi (k : Nat) : loI k ≤ hiI k ∧ hiI k < 64 := by unfold loI hiI; split <;> omega

set_option maxHeartbeats 400000 in
theorem CronRead_large (s : ByteArray) (w : World) (hs : 200 < s.size) :
    Calls Tryd.prog 8 #[.string s] w fun e w' => e = .returned (.tuple #[.agg #[.int .u64 0, .int .u64 0, .int .u64 0, .int .u64 0, .int .u64 0], .int .i64 2]) ∧ Below w.heap.size w w' := by
  go_enter Tryd.func8, Tryd.ntmps8
  go_wp2
  exact bodyPost_ret (v := .tuple #[.agg #[.int .u64 0, .int .u64 0, .int .u64 0, .int .u64 0, .int .u64 0], .int .i64 2]) (by simp [results, Tryd.results8, go_sem]) rfl ⟨rfl, below_box w _⟩

theorem w3_facts (w2 : World) :
    (∀ i, i < 5 → (((w2.alloc (.cells #[.int .u64 0, .int .u64 0, .int .u64 0, .int .u64 0, .int .u64 0] 37)).alloc (.cells #[.int .i64 0, .int .i64 0, .int .i64 1, .int .i64 1, .int .i64 0] 45)).alloc (.cells #[.int .i64 59, .int .i64 23, .int .i64 31, .int .i64 12, .int .i64 6] 45)).cell? ⟨w2.heap.size + 1, i, none⟩ = some (.int .i64 (loI i))) ∧ (∀ i, i < 5 → (((w2.alloc (.cells #[.int .u64 0, .int .u64 0, .int .u64 0, .int .u64 0, .int .u64 0] 37)).alloc (.cells #[.int .i64 0, .int .i64 0, .int .i64 1, .int .i64 1, .int .i64 0] 45)).alloc (.cells #[.int .i64 59, .int .i64 23, .int .i64 31, .int .i64 12, .int .i64 6] 45)).cell? ⟨w2.heap.size + 1 + 1, i, none⟩ = some (.int .i64 (hiI i))) ∧ (((w2.alloc (.cells #[.int .u64 0, .int .u64 0, .int .u64 0, .int .u64 0, .int .u64 0] 37)).alloc (.cells #[.int .i64 0, .int .i64 0, .int .i64 1, .int .i64 1, .int .i64 0] 45)).alloc (.cells #[.int .i64 59, .int .i64 23, .int .i64 31, .int .i64 12, .int .i64 6] 45)).heap.size = w2.heap.size + 1 + 1 + 1 ∧ Below w2.heap.size w2 (((w2.alloc (.cells #[.int .u64 0, .int .u64 0, .int .u64 0, .int .u64 0, .int .u64 0] 37)).alloc (.cells #[.int .i64 0, .int .i64 0, .int .i64 1, .int .i64 1, .int .i64 0] 45)).alloc (.cells #[.int .i64 59, .int .i64 23, .int .i64 31, .int .i64 12, .int .i64 6] 45)) := by
  refine ⟨?_, ?_, by simp, ((below_box w2 _).alloc (by simp) _).alloc (by simp; omega) _⟩
  · intro i hi
    rw [cell_blk (three_new w2 _ _ _).2.1 i]
    rcases (show i = 0 ∨ i = 1 ∨ i = 2 ∨ i = 3 ∨ i = 4 by omega) with e | e | e | e | e <;> subst e <;> rfl
  · intro i hi
    rw [cell_blk (three_new w2 _ _ _).2.2 i]
    rcases (show i = 0 ∨ i = 1 ∨ i = 2 ∨ i = 3 ∨ i = 4 by omega) with e | e | e | e | e <;> subst e <;> rfl

set_option maxHeartbeats 8000000 in
theorem CronRead_five (l : List UInt8) (w : World) (hl : l.length ≤ 200) (h5 : (sp 32 l).length = 5) :
    Calls Tryd.prog 8 #[.string ⟨l.toArray⟩] w fun e w' => ((e = .returned (.tuple #[.agg #[.int .u64 0, .int .u64 0, .int .u64 0, .int .u64 0, .int .u64 0], .int .i64 3]) ∧ prsO l = none) ∨ (∃ c : Cr, e = .returned (.tuple #[.agg #[.int .u64 c.mi, .int .u64 c.ho, .int .u64 c.dm, .int .u64 c.mo, .int .u64 c.dw], .int .i64 0]) ∧ prsO l = some c)) ∧ Below w.heap.size w w' := by
  have c := fun w => Pieces_at l 32 5 h5 w hl
  rw [show (32 : UInt8).toNat = 32 from rfl] at c
  have hs : (ByteArray.mk l.toArray).size ≤ 200 := by rw [mk_size]; exact hl
  have hmem := sp_len 32 l
  have H5 : Hid ((sp 32 l).length = 5) := h5
  clear h5
  generalize ByteArray.mk l.toArray = s at *
  go_enter Tryd.func8, Tryd.ntmps8
  go_wp2_with fail
  refine (c _).mono ?_
  rintro e w1 ⟨g, cap, rfl, hcell, ⟨hg1, hg2⟩, hb1⟩
  clear c
  have hz0 : ∀ i, i < 5 → w1.cell? ⟨w.heap.size, i, none⟩ = some (.int .u64 0) ∧ w1.frozen? ⟨w.heap.size, i, none⟩ = false := by
    intro i hi
    rw [hb1.cell (p := ⟨w.heap.size, i, none⟩) (by simp), hb1.frozen (p := ⟨w.heap.size, i, none⟩) (by simp), blk_cell (blk_new w _) i, blk_frozen (blk_new w _) i]
    rcases (show i = 0 ∨ i = 1 ∨ i = 2 ∨ i = 3 ∨ i = 4 by omega) with e | e | e | e | e <;> subst e <;> exact ⟨rfl, rfl⟩
  have hbw1 : Below w.heap.size w w1 := (below_box w _).trans (hb1.mono (by simp))
  have hs1 : w.heap.size < w1.heap.size := by have := hb1.size; simp at this; omega
  clear hb1
  go_wp2_with fail
  refine (Sets_any _ _ _ _ _ _).mono ?_
  rintro e w2 ⟨rfl, hb2⟩
  have hs2 := hb2.size
  go_wp2_with fail
  obtain ⟨hlow, htop, hsz3, hb3⟩ := w3_facts w2
  generalize ((w2.alloc (.cells #[.int .u64 0, .int .u64 0, .int .u64 0, .int .u64 0, .int .u64 0] 37)).alloc (.cells #[.int .i64 0, .int .i64 0, .int .i64 1, .int .i64 1, .int .i64 0] 45)).alloc (.cells #[.int .i64 59, .int .i64 23, .int .i64 31, .int .i64 12, .int .i64 6] 45) = w3 at *
  have hb13 : Below w1.heap.size w1 w3 := then_below hb2 hb3
  have hbw3 : Below w.heap.size w w3 := then_below hbw1 hb13
  clear hb2 hb3
  have hnew := blk_new w3 (.cells #[.int .u64 0, .int .u64 0, .int .u64 0, .int .u64 0, .int .u64 0] 37)
  rw [hsz3] at hnew
  have hstart : row5 (va l 0 0) = #[.int .u64 0, .int .u64 0, .int .u64 0, .int .u64 0, .int .u64 0] := by simp [row5, va]
  have HST : Hid (row5 (va l 0 0) = #[.int .u64 0, .int .u64 0, .int .u64 0, .int .u64 0, .int .u64 0]) := hstart
  clear hstart
  go_loopw [32] (fun i wr => ∃ k : Nat, i = .int .i64 k ∧ k ≤ 5 ∧ Hid (∀ j, j < k → ∃ v, fldO l j = some v) ∧ wr.heap[w2.heap.size + 1 + 1 + 1]? = some (.cells (row5 (va l k 0)) 37 (0, 0)) ∧ Below (w2.heap.size + 1 + 1 + 1) w3 wr) (fun i _ => 5 - (intOf i).toNat)
  case atStart => exact ⟨0, rfl, by omega, (fun j hj => by omega), by rw [HST.out]; exact hnew, (Below.refl _ _).alloc (by omega) _⟩
  case round =>
    clear hnew HST
    obtain ⟨k, rfl, hk, hv, hblk, hB⟩ := hrel
    have hb2 := blk_lt hblk
    have hbw : Below w.heap.size w wr := hbw3.trans (hB.mono (by omega))
    have hzr : ∀ i, i < 5 → wr.cell? ⟨w.heap.size, i, none⟩ = some (.int .u64 0) ∧ wr.frozen? ⟨w.heap.size, i, none⟩ = false := by
      intro i hi
      rw [hB.cell (p := ⟨w.heap.size, i, none⟩) (by simp; omega), hB.frozen (p := ⟨w.heap.size, i, none⟩) (by simp; omega), hb13.cell (p := ⟨w.heap.size, i, none⟩) (by simp; omega), hb13.frozen (p := ⟨w.heap.size, i, none⟩) (by simp; omega)]
      exact hz0 i hi
    by_cases hk5 : k < 5
    · have hlk := hlow k hk5
      have htk := htop k hk5
      have hpk := hcell k hk5
      rw [← hb13.cell (p := ⟨g, k, none⟩) (by simp; omega), ← hB.cell (p := ⟨g, k, none⟩) (by simp; omega)] at hpk
      have hxl := getD_len (c := 32) hl k
      have hfld := fld_at l hk5
      obtain ⟨hlh, hh64⟩ := lo_hi k
      have HLH : Hid (loI k ≤ hiI k ∧ hiI k < 64) := ⟨hlh, hh64⟩
      clear hlh hh64
      generalize (sp 32 l).getD k [] = x at *
      have HFL : Hid (fldO l k = setO (loI k) (hiI k) x) := hfld
      clear hfld
      have d := fun w => Pieces_at x 44 _ rfl w hxl
      rw [show (44 : UInt8).toNat = 44 from rfl] at d
      have hcnt := sp_count 44 x
      have hml := sp_len 44 x
      have HNE := sp_ne 44 x
      have HSO : Hid (setO (loI k) (hiI k) x = itemsO (loI k) (hiI k) (sp 44 x) 0) := rfl
      generalize sp 44 x = ls at *
      generalize ByteArray.mk x.toArray = sx at *
      go_wp2_with fail
      refine (d _).mono ?_
      rintro e w4 ⟨g3, cap3, rfl, hcell3, ⟨hg31, hg32⟩, hb4⟩
      clear d
      have hB4 : Below (w2.heap.size + 1 + 1 + 1) w3 w4 := hB.trans (hb4.mono (by omega))
      have hblk4 := (hb4.block _ hb2).trans hblk
      have hbw4 := then_below hbw hb4
      have hs4 := hb4.size
      go_wp2_with fail
      go_loopw [41] (fun i wr => ∃ (m a : Nat), i = .int .i64 m ∧ m ≤ ls.length ∧ Hid (itemsO (loI k) (hiI k) (ls.take m) 0 = some a) ∧ wr.heap[w2.heap.size + 1 + 1 + 1]? = some (.cells (row5 (va l k a)) 37 (0, 0)) ∧ Hid (∀ j, j < ls.length → wr.cell? ⟨g3, j, none⟩ = some (.string ⟨(ls.getD j []).toArray⟩)) ∧ g3 < wr.heap.size ∧ Below (w2.heap.size + 1 + 1 + 1) w3 wr) (fun i _ => ls.length - (intOf i).toNat)
      case atStart => exact ⟨0, 0, rfl, by omega, rfl, hblk4, hcell3, hg32, hB4⟩
      case round =>
        clear hpk
        obtain ⟨m, a, rfl, hm, hit, hblk5, hc5, hg5, hB5⟩ := hrel
        have hb5 := blk_lt hblk5
        have hbw5 : Below w.heap.size w wr := hbw3.trans (hB5.mono (by omega))
        by_cases hmlt : m < ls.length
        · have hpm := hc5.out m hmlt
          have hlk5 := hlk
          rw [← hB5.cell (p := ⟨w2.heap.size + 1, k, none⟩) (by simp)] at hlk5
          have htk5 := htk
          rw [← hB5.cell (p := ⟨w2.heap.size + 1 + 1, k, none⟩) (by simp)] at htk5
          have hym := hml _ (mem_getD hmlt)
          have hnx := take_next hmlt
          have HNX : Hid (ls.take (m + 1) = ls.take m ++ [ls.getD m []]) := hnx
          clear hnx
          generalize ls.getD m [] = y at *
          have halt := acc_lt HLH.out.1 HLH.out.2 hit.out
          cases hi2 : itemO (loI k) (hiI k) y with
          | none =>
            have ci := fun w => cronItem_any (loI k) (hiI k) HLH.out.1 HLH.out.2 y (by omega) w none hi2
            have hrn : fldO l k = none := by
              rw [HFL.out, HSO.out, ← List.take_append_drop (m + 1) ls]
              refine items_none _ _ _ _ _ ?_
              rw [HNX.out, items_snoc, hit.out, hi2]
              rfl
            have HRN : Hid (fldO l k = none) := hrn
            clear hrn hi2
            go_wp2_with fail
            go_region_with ((go_at_call 20; refine (ci _).mono ?_; rintro e w6 ⟨rfl, hb6'⟩))
            all_goals
              have hb6 : Below wr.heap.size wr w6 := (Below.refl _ _).drew.trans hb6'
              clear hb6'
              have hzq : ∀ i, i < 5 → w6.cell? ⟨w.heap.size, i, none⟩ = some (.int .u64 0) ∧ w6.frozen? ⟨w.heap.size, i, none⟩ = false := by
                intro i hi
                rw [hb6.cell (p := ⟨w.heap.size, i, none⟩) (by simp; omega), hb6.frozen (p := ⟨w.heap.size, i, none⟩) (by simp; omega), hB5.cell (p := ⟨w.heap.size, i, none⟩) (by simp; omega), hB5.frozen (p := ⟨w.heap.size, i, none⟩) (by simp; omega), hb13.cell (p := ⟨w.heap.size, i, none⟩) (by simp; omega), hb13.frozen (p := ⟨w.heap.size, i, none⟩) (by simp; omega)]
                exact hz0 i hi
              have z0 := (hzq 0 (by omega)).1
              have y0 := (hzq 0 (by omega)).2
              have z1 := (hzq 1 (by omega)).1
              have y1 := (hzq 1 (by omega)).2
              have z2 := (hzq 2 (by omega)).1
              have y2 := (hzq 2 (by omega)).2
              have z3 := (hzq 3 (by omega)).1
              have y3 := (hzq 3 (by omega)).2
              have z4 := (hzq 4 (by omega)).1
              have y4 := (hzq 4 (by omega)).2
              clear hzq
              go_wp2_with fail
              exact bodyPost_ret (v := .tuple #[.agg #[.int .u64 0, .int .u64 0, .int .u64 0, .int .u64 0, .int .u64 0], .int .i64 3]) (by simp [results, Tryd.results8, go_sem, z0, z1, z2, z3, z4]) rfl ⟨Or.inl ⟨rfl, prs_none hk5 HRN.out⟩, (((((hbw5.trans (hb6.mono hbw5.size)).setCell (Nat.le_refl _) _).setCell (Nat.le_refl _) _).setCell (Nat.le_refl _) _).setCell (Nat.le_refl _) _).setCell (Nat.le_refl _) _⟩
          | some v =>
            have ci := fun w => cronItem_any (loI k) (hiI k) HLH.out.1 HLH.out.2 y (by omega) w (some v) hi2
            have hvlt := fin_lt (item_fin HLH.out.1 hi2) HLH.out.2
            have hnx : itemsO (loI k) (hiI k) (ls.take (m + 1)) 0 = some (a ||| v) := by rw [HNX.out, items_snoc, hit.out, hi2]; rfl
            have HX : Hid (itemsO (loI k) (hiI k) (ls.take (m + 1)) 0 = some (a ||| v)) := hnx
            clear hnx hi2
            go_wp2_with fail
            go_region_with ((go_at_call 20; refine (ci _).mono ?_; rintro e w6 ⟨rfl, hb6'⟩))
            all_goals
              have hb6 : Below wr.heap.size wr w6 := (Below.refl _ _).drew.trans hb6'
              clear hb6'
              have hblk6 := (hb6.block _ hb5).trans hblk5
              have dk : w6.cell? ⟨w2.heap.size + 1 + 1 + 1, k, none⟩ = some (.int .u64 (a : Nat)) := by
                rw [blk_cell hblk6 k, row5_at _ hk5]
                simp [va]
              have fk : w6.frozen? ⟨w2.heap.size + 1 + 1 + 1, k, none⟩ = false := blk_frozen hblk6 k
              have hB6 : Below (w2.heap.size + 1 + 1 + 1) w3 w6 := hB5.trans (hb6.mono (by omega))
              have hs6 := hb6.size
              go_wp2_with fail
              go_roundw
              case rel =>
                refine ⟨m + 1, a ||| v, by go_num, by omega, HX, ?_, ?_, by simp [World.setCell]; omega, hB6.setCell (by simp) _⟩
                · rw [bits_or_u64_nat _ _ halt hvlt, blk_set hblk6, row5_set _ hk5, row5_congr (va_set l k a (a ||| v))]
                · intro j hj
                  rw [set_other (by omega), hb6.cell (p := ⟨g3, j, none⟩) hg5]
                  exact hc5.out j hj
              case measure => simp [intOf]; omega
        · have hfa : fldO l k = some a := by
            rw [HFL.out, HSO.out, ← hit.out, List.take_of_length_le (by omega)]
          have hrow : row5 (va l k a) = row5 (va l (k + 1) 0) := row5_congr (va_next hfa)
          rw [hrow] at hblk5
          have HFA : Hid (fldO l k = some a) := hfa
          clear hfa hrow
          go_wp2_with fail
          go_roundw
          case rel => exact ⟨k + 1, by go_num, by omega, vk_snoc hv.out HFA.out, hblk5, hB5⟩
          case measure => simp [intOf]; omega
    · have hke : k = 5 := by omega
      subst hke
      have hzq := hzr
      have d0 : wr.cell? ⟨w2.heap.size + 1 + 1 + 1, 0, none⟩ = some (.int .u64 (va l 5 0 0 : Nat)) := (blk_cell hblk 0).trans (row5_at _ (by omega))
      have d1 : wr.cell? ⟨w2.heap.size + 1 + 1 + 1, 1, none⟩ = some (.int .u64 (va l 5 0 1 : Nat)) := (blk_cell hblk 1).trans (row5_at _ (by omega))
      have d2 : wr.cell? ⟨w2.heap.size + 1 + 1 + 1, 2, none⟩ = some (.int .u64 (va l 5 0 2 : Nat)) := (blk_cell hblk 2).trans (row5_at _ (by omega))
      have d3 : wr.cell? ⟨w2.heap.size + 1 + 1 + 1, 3, none⟩ = some (.int .u64 (va l 5 0 3 : Nat)) := (blk_cell hblk 3).trans (row5_at _ (by omega))
      have d4 : wr.cell? ⟨w2.heap.size + 1 + 1 + 1, 4, none⟩ = some (.int .u64 (va l 5 0 4 : Nat)) := (blk_cell hblk 4).trans (row5_at _ (by omega))
      have hP : Hid (prsO l = some ⟨va l 5 0 0, va l 5 0 1, va l 5 0 2, va l 5 0 3, va l 5 0 4⟩) := prs_some H5.out (va_at hv.out (by omega)) (va_at hv.out (by omega)) (va_at hv.out (by omega)) (va_at hv.out (by omega)) (va_at hv.out (by omega))
      generalize va l 5 0 0 = x0 at *
      generalize va l 5 0 1 = x1 at *
      generalize va l 5 0 2 = x2 at *
      generalize va l 5 0 3 = x3 at *
      generalize va l 5 0 4 = x4 at *
      clear hblk
      have z0 := (hzq 0 (by omega)).1
      have y0 := (hzq 0 (by omega)).2
      have z1 := (hzq 1 (by omega)).1
      have y1 := (hzq 1 (by omega)).2
      have z2 := (hzq 2 (by omega)).1
      have y2 := (hzq 2 (by omega)).2
      have z3 := (hzq 3 (by omega)).1
      have y3 := (hzq 3 (by omega)).2
      have z4 := (hzq 4 (by omega)).1
      have y4 := (hzq 4 (by omega)).2
      clear hzq hzr
      go_wp2_with fail
      exact bodyPost_ret (v := .tuple #[.agg #[.int .u64 x0, .int .u64 x1, .int .u64 x2, .int .u64 x3, .int .u64 x4], .int .i64 0]) (by simp [results, Tryd.results8, go_sem, z0, z1, z2, z3, z4]) rfl ⟨Or.inr ⟨⟨x0, x1, x2, x3, x4⟩, rfl, hP.out⟩, (((((hbw).setCell (Nat.le_refl _) _).setCell (Nat.le_refl _) _).setCell (Nat.le_refl _) _).setCell (Nat.le_refl _) _).setCell (Nat.le_refl _) _⟩

set_option maxHeartbeats 2000000 in
theorem CronRead_few (l : List UInt8) (n : Nat) (hn : (sp 32 l).length = n) (w : World) (hl : l.length ≤ 200) (h5 : ((n : Int) == 5) = false) :
    Calls Tryd.prog 8 #[.string ⟨l.toArray⟩] w fun e w' => e = .returned (.tuple #[.agg #[.int .u64 0, .int .u64 0, .int .u64 0, .int .u64 0, .int .u64 0], .int .i64 3]) ∧ Below w.heap.size w w' := by
  have c := fun w => Pieces_at l 32 n hn w hl
  rw [show (32 : UInt8).toNat = 32 from rfl] at c
  have hs : (ByteArray.mk l.toArray).size ≤ 200 := by rw [mk_size]; exact hl
  generalize ByteArray.mk l.toArray = s at *
  go_enter Tryd.func8, Tryd.ntmps8
  go_wp2_with fail
  refine (c _).mono ?_
  rintro e w1 ⟨g, cap, rfl, hcell, ⟨hg1, hg2⟩, hb1⟩
  clear c hcell
  have hz0 : ∀ i, i < 5 → w1.cell? ⟨w.heap.size, i, none⟩ = some (.int .u64 0) ∧ w1.frozen? ⟨w.heap.size, i, none⟩ = false := by
    intro i hi
    rw [hb1.cell (p := ⟨w.heap.size, i, none⟩) (by simp), hb1.frozen (p := ⟨w.heap.size, i, none⟩) (by simp), blk_cell (blk_new w _) i, blk_frozen (blk_new w _) i]
    rcases (show i = 0 ∨ i = 1 ∨ i = 2 ∨ i = 3 ∨ i = 4 by omega) with e | e | e | e | e <;> subst e <;> exact ⟨rfl, rfl⟩
  have hbw1 : Below w.heap.size w w1 := (below_box w _).trans (hb1.mono (by simp))
  clear hb1
  have z0 := (hz0 0 (by omega)).1
  have y0 := (hz0 0 (by omega)).2
  have z1 := (hz0 1 (by omega)).1
  have y1 := (hz0 1 (by omega)).2
  have z2 := (hz0 2 (by omega)).1
  have y2 := (hz0 2 (by omega)).2
  have z3 := (hz0 3 (by omega)).1
  have y3 := (hz0 3 (by omega)).2
  have z4 := (hz0 4 (by omega)).1
  have y4 := (hz0 4 (by omega)).2
  clear hz0
  go_wp2_with fail
  exact bodyPost_ret (v := .tuple #[.agg #[.int .u64 0, .int .u64 0, .int .u64 0, .int .u64 0, .int .u64 0], .int .i64 3]) (by simp [results, Tryd.results8, go_sem, z0, z1, z2, z3, z4]) rfl ⟨rfl, ((((hbw1.setCell (Nat.le_refl _) _).setCell (Nat.le_refl _) _).setCell (Nat.le_refl _) _).setCell (Nat.le_refl _) _).setCell (Nat.le_refl _) _⟩
theorem CronRead_no (l : List UInt8) (w : World) (hl : l.length ≤ 200) (hp : prsO l = none) :
    Calls Tryd.prog 8 #[.string ⟨l.toArray⟩] w fun e w' => e = .returned (.tuple #[.agg #[.int .u64 0, .int .u64 0, .int .u64 0, .int .u64 0, .int .u64 0], .int .i64 3]) ∧ Below w.heap.size w w' := by
  by_cases h5 : (sp 32 l).length = 5
  · refine (CronRead_five l w hl h5).mono ?_
    rintro e w' ⟨⟨rfl, _⟩ | ⟨c, rfl, h⟩, hb⟩
    · exact ⟨rfl, hb⟩
    · rw [hp] at h; cases h
  · exact CronRead_few l _ rfl w hl (by simp; omega)
theorem CronRead_yes (l : List UInt8) (c : Cr) (w : World) (hl : l.length ≤ 200) (hp : prsO l = some c) :
    Calls Tryd.prog 8 #[.string ⟨l.toArray⟩] w fun e w' => e = .returned (.tuple #[.agg #[.int .u64 c.mi, .int .u64 c.ho, .int .u64 c.dm, .int .u64 c.mo, .int .u64 c.dw], .int .i64 0]) ∧ Below w.heap.size w w' := by
  by_cases h5 : (sp 32 l).length = 5
  · refine (CronRead_five l w hl h5).mono ?_
    rintro e w' ⟨⟨rfl, h⟩ | ⟨c', rfl, h⟩, hb⟩
    · rw [hp] at h; cases h
    · rw [hp] at h; cases h; exact ⟨rfl, hb⟩
  · rw [prs_few h5] at hp; cases hp
end Go.Proofs.YthebcdadoinflaaDoor
