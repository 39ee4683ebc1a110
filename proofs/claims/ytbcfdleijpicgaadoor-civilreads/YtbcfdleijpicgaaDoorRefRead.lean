/- What the document's own reading of a text (shiftbellref.DateRead) answers: the same as the plain mathematics of texts. -/
import Derived.Test.YtbcfdleijpicgaaDoorRefStr
import Derived.Test.YtbcfdleijpicgaaDoorStr
import Derived.Deep.QuietTactic
import Derived.BigQuiet
namespace Go.Proofs.YtbcfdleijpicgaaDoor
open Go.RowKit Cal Txt

/-- What has been read of a text's first k bytes. -/
def St (l : List UInt8) (k : Nat) (y m d : Int) : Prop := nrd (l.take (min k 4)) 0 = some y ∧ nrd ((l.drop 5).take (min (k - 5) 2)) 0 = some m ∧ nrd ((l.drop 8).take (k - 8)) 0 = some d

theorem dig_snoc {l : List UInt8} {j : Nat} {a : Int} (h : nrd (l.take j) 0 = some a) (hj : j < l.length) :
    nrd (l.take (j + 1)) 0 = if 48 ≤ (l[j].toNat : Int) ∧ (l[j].toNat : Int) ≤ 57 then some (a * 10 + ((l[j].toNat : Int) - 48)) else none := by
  rw [List.take_succ_eq_append_getElem hj]; exact nrd_snoc h
theorem St.y {l : List UInt8} {k : Nat} {y m d : Int} (h : St l k y m d) (hk : k < 4) (hl : k < l.length) (hd : 48 ≤ (l[k].toNat : Int) ∧ (l[k].toNat : Int) ≤ 57) : St l (k + 1) (y * 10 + ((l[k].toNat : Int) - 48)) m d := by
  obtain ⟨h1, h2, h3⟩ := h
  rw [show min k 4 = k by omega] at h1
  refine ⟨?_, by rw [show min (k + 1 - 5) 2 = min (k - 5) 2 by omega]; exact h2, by rw [show k + 1 - 8 = k - 8 by omega]; exact h3⟩
  rw [show min (k + 1) 4 = k + 1 by omega, dig_snoc h1 hl, if_pos hd]
theorem St.skip {l : List UInt8} {k : Nat} {y m d : Int} (h : St l k y m d) (hk : k = 4 ∨ k = 7) : St l (k + 1) y m d := by
  obtain ⟨h1, h2, h3⟩ := h
  rcases hk with rfl | rfl
  · exact ⟨h1, h2, h3⟩
  · exact ⟨h1, h2, h3⟩
theorem St.m {l : List UInt8} {k : Nat} {y m d : Int} (h : St l k y m d) (hk : 5 ≤ k ∧ k < 7) (hl : k < l.length) (hd : 48 ≤ (l[k].toNat : Int) ∧ (l[k].toNat : Int) ≤ 57) : St l (k + 1) y (m * 10 + ((l[k].toNat : Int) - 48)) d := by
  obtain ⟨h1, h2, h3⟩ := h
  rw [show min (k - 5) 2 = k - 5 by omega] at h2
  refine ⟨by rw [show min (k + 1) 4 = min k 4 by omega]; exact h1, ?_, by rw [show k + 1 - 8 = k - 8 by omega]; exact h3⟩
  have hb : (l.drop 5)[k - 5]'(by simp; omega) = l[k] := by rw [List.getElem_drop]; congr 1; omega
  rw [show min (k + 1 - 5) 2 = k - 5 + 1 by omega, dig_snoc h2 (by simp; omega), hb, if_pos hd]
theorem St.d {l : List UInt8} {k : Nat} {y m d : Int} (h : St l k y m d) (hk : 8 ≤ k) (hl : k < l.length) (hd : 48 ≤ (l[k].toNat : Int) ∧ (l[k].toNat : Int) ≤ 57) : St l (k + 1) y m (d * 10 + ((l[k].toNat : Int) - 48)) := by
  obtain ⟨h1, h2, h3⟩ := h
  refine ⟨by rw [show min (k + 1) 4 = min k 4 by omega]; exact h1, by rw [show min (k + 1 - 5) 2 = min (k - 5) 2 by omega]; exact h2, ?_⟩
  have hb : (l.drop 8)[k - 8]'(by simp; omega) = l[k] := by rw [List.getElem_drop]; congr 1; omega
  rw [show k + 1 - 8 = k - 8 + 1 by omega, dig_snoc h3 (by simp; omega), hb, if_pos hd]
theorem St.bd {l : List UInt8} {k : Nat} {y m d : Int} (h : St l k y m d) (hk : k ≤ 10) : (0 ≤ y ∧ y < 10000) ∧ (0 ≤ m ∧ m < 10000) ∧ (0 ≤ d ∧ d < 10000) := by
  obtain ⟨h1, h2, h3⟩ := h
  have a1 := nrd_bd _ 0 _ 4 (by simp; omega) (by omega) h1
  have a2 := nrd_bd _ 0 _ 4 (by simp; omega) (by omega) h2
  have a3 := nrd_bd _ 0 _ 4 (by simp; omega) (by omega) h3
  exact ⟨⟨a1.1, by have := a1.2; omega⟩, ⟨a2.1, by have := a2.2; omega⟩, ⟨a3.1, by have := a3.2; omega⟩⟩
theorem St.end_ {l : List UInt8} {y m d : Int} (h : St l 10 y m d) (hl : l.length = 10) (h4 : l.getD 4 0 = 45) (h7 : l.getD 7 0 = 45) : rd l = some (y, m, d) := by
  obtain ⟨h1, h2, h3⟩ := h
  have e : (l.drop 8).take (10 - 8) = l.drop 8 := List.take_of_length_le (by simp; omega)
  rw [e] at h3
  rw [rd_form hl h4 h7]
  have h1' : nrd (l.take 4) 0 = some y := h1
  have h2' : nrd ((l.drop 5).take 2) 0 = some m := h2
  rw [h1', h2', h3]
  rfl
theorem none_of_take {l : List UInt8} {j : Nat} {a : Int} (h : nrd (l.take j) 0 = some a) (hj : j < l.length) (hd : ¬ (48 ≤ (l[j].toNat : Int) ∧ (l[j].toNat : Int) ≤ 57)) : nrd l 0 = none := by
  have q := dig_snoc h hj
  rw [if_neg hd] at q
  have := nrd_prefix_none (l.drop (j + 1)) q
  rwa [List.take_append_drop] at this
/-- A byte that should be a digit and is none: the text is not of the form. -/
theorem St.bad {l : List UInt8} {k : Nat} {y m d : Int} (h : St l k y m d) (hl : l.length = 10) (hk : k < 10) (h4 : k ≠ 4) (h7 : k ≠ 7) (hd : ¬ (48 ≤ ((l[k]'(by omega)).toNat : Int) ∧ ((l[k]'(by omega)).toNat : Int) ≤ 57)) : rd l = none := by
  obtain ⟨h1, h2, h3⟩ := h
  unfold rd
  split
  · rcases (show k < 4 ∨ (5 ≤ k ∧ k < 7) ∨ 8 ≤ k by omega) with c | c | c
    · rw [show min k 4 = k by omega] at h1
      have e : (l.take 4).take k = l.take k := by rw [List.take_take, show min k 4 = k by omega]
      have hb : (l.take 4)[k]'(by simp; omega) = l[k]'(by omega) := List.getElem_take
      have := none_of_take (l := l.take 4) (j := k) (by rw [e]; exact h1) (by simp; omega) (by rw [hb]; exact hd)
      rw [this]; rfl
    · rw [show min (k - 5) 2 = k - 5 by omega] at h2
      have e : ((l.drop 5).take 2).take (k - 5) = (l.drop 5).take (k - 5) := by rw [List.take_take, show min (k - 5) 2 = k - 5 by omega]
      have hb : ((l.drop 5).take 2)[k - 5]'(by simp; omega) = l[k]'(by omega) := by rw [List.getElem_take, List.getElem_drop]; congr 1; omega
      have := none_of_take (l := (l.drop 5).take 2) (j := k - 5) (by rw [e]; exact h2) (by simp; omega) (by rw [hb]; exact hd)
      rw [this]
      cases nrd (l.take 4) 0 <;> rfl
    · have hb : (l.drop 8)[k - 8]'(by simp; omega) = l[k]'(by omega) := by rw [List.getElem_drop]; congr 1; omega
      have := none_of_take (l := l.drop 8) (j := k - 8) h3 (by simp; omega) (by rw [hb]; exact hd)
      rw [this]
      cases nrd (l.take 4) 0 <;> simp
  · rfl

set_option maxHeartbeats 400000 in
theorem DateRead_short (s : ByteArray) (w : World) (hq : ((s.size : Int) != 10) = true) :
    Calls Tryd.prog 14 #[.string s] w fun e w' => e = .returned (.tuple #[.int .i64 0, .int .i64 3]) ∧ Below w.heap.size w w' := by
  go_enter Tryd.func14, Tryd.ntmps14
  go_wp2_with fail
  go_ret2
  exact ⟨rfl, Below.refl _ _⟩

set_option maxHeartbeats 400000 in
theorem DateRead_dash (s : ByteArray) (w : World) (h10 : s.size = 10) (hq : (((s[4]'(by omega)).toNat : Int) != 45) = true ∨ (((s[4]'(by omega)).toNat : Int) != 45) = false ∧ (((s[7]'(by omega)).toNat : Int) != 45) = true) :
    Calls Tryd.prog 14 #[.string s] w fun e w' => e = .returned (.tuple #[.int .i64 0, .int .i64 3]) ∧ Below w.heap.size w w' := by
  rcases hq with hq | ⟨hq, hq'⟩
  all_goals
    go_enter Tryd.func14, Tryd.ntmps14
    go_wp2_with fail
    go_ret2
    exact ⟨rfl, Below.refl _ _⟩

/-- What the loop of DateRead keeps. -/
def Kept (s : ByteArray) (w : World) (k : Nat) (y m d : Int) (wr : World) : Prop :=
  St s.data.toList k y m d ∧ wr.cell? ⟨w.heap.size, 0, none⟩ = some (.int .i64 y) ∧ wr.cell? ⟨w.heap.size, 1, none⟩ = some (.int .i64 m) ∧ wr.cell? ⟨w.heap.size, 2, none⟩ = some (.int .i64 d)
    ∧ wr.frozen? ⟨w.heap.size, 0, none⟩ = false ∧ wr.frozen? ⟨w.heap.size, 1, none⟩ = false ∧ wr.frozen? ⟨w.heap.size, 2, none⟩ = false ∧ Below w.heap.size w wr

theorem kept_start (s : ByteArray) (w : World) (T : TypeId) : Kept s w 0 0 0 0 (w.alloc (.cells #[.int .i64 0, .int .i64 0, .int .i64 0] T)) :=
  ⟨⟨rfl, rfl, rfl⟩, by simp [go_sem], by simp [go_sem], by simp [go_sem], by simp [go_sem], by simp [go_sem], by simp [go_sem], (Below.refl _ _).alloc (Nat.le_refl _) _⟩

theorem byte_at {s : ByteArray} {k : Nat} (h : k < s.size) : s.data.toList[k]'(by simpa using h) = s[k] := rfl
theorem kept_y {s : ByteArray} {w wr : World} {k : Nat} {y m d : Int} (h : Kept s w k y m d wr) (hk : k < 4) (hl : k < s.size) (hd : 48 ≤ (s[k].toNat : Int) ∧ (s[k].toNat : Int) ≤ 57) :
    Kept s w (k + 1) (y * 10 + ((s[k].toNat : Int) - 48)) m d (wr.setCell ⟨w.heap.size, 0, none⟩ (.int .i64 (y * 10 + ((s[k].toNat : Int) - 48)))).drew := by
  obtain ⟨hS, c0, c1, c2, f0, f1, f2, hB⟩ := h
  exact ⟨hS.y hk (by simpa using hl) hd, by simp [go_sem, c0], by simp [go_sem, c1], by simp [go_sem, c2], by simp [go_sem, f0], by simp [go_sem, f1], by simp [go_sem, f2], (hB.setCell (Nat.le_refl _) _).drew⟩
theorem kept_m {s : ByteArray} {w wr : World} {k : Nat} {y m d : Int} (h : Kept s w k y m d wr) (hk : 5 ≤ k ∧ k < 7) (hl : k < s.size) (hd : 48 ≤ (s[k].toNat : Int) ∧ (s[k].toNat : Int) ≤ 57) :
    Kept s w (k + 1) y (m * 10 + ((s[k].toNat : Int) - 48)) d (wr.setCell ⟨w.heap.size, 1, none⟩ (.int .i64 (m * 10 + ((s[k].toNat : Int) - 48)))).drew := by
  obtain ⟨hS, c0, c1, c2, f0, f1, f2, hB⟩ := h
  exact ⟨hS.m hk (by simpa using hl) hd, by simp [go_sem, c0], by simp [go_sem, c1], by simp [go_sem, c2], by simp [go_sem, f0], by simp [go_sem, f1], by simp [go_sem, f2], (hB.setCell (Nat.le_refl _) _).drew⟩
theorem kept_d {s : ByteArray} {w wr : World} {k : Nat} {y m d : Int} (h : Kept s w k y m d wr) (hk : 8 ≤ k) (hl : k < s.size) (hd : 48 ≤ (s[k].toNat : Int) ∧ (s[k].toNat : Int) ≤ 57) :
    Kept s w (k + 1) y m (d * 10 + ((s[k].toNat : Int) - 48)) (wr.setCell ⟨w.heap.size, 2, none⟩ (.int .i64 (d * 10 + ((s[k].toNat : Int) - 48)))).drew := by
  obtain ⟨hS, c0, c1, c2, f0, f1, f2, hB⟩ := h
  exact ⟨hS.d hk (by simpa using hl) hd, by simp [go_sem, c0], by simp [go_sem, c1], by simp [go_sem, c2], by simp [go_sem, f0], by simp [go_sem, f1], by simp [go_sem, f2], (hB.setCell (Nat.le_refl _) _).drew⟩
theorem kept_skip {s : ByteArray} {w wr : World} {k : Nat} {y m d : Int} (h : Kept s w k y m d wr) (hk : k = 4 ∨ k = 7) : Kept s w (k + 1) y m d wr := ⟨h.1.skip hk, h.2⟩

theorem below_drews {B : Nat} {w wr : World} (h : Below B w wr) (n : Nat) : Below B w (wr.drewN n) := ⟨h.os, h.tape, h.output, h.size, h.block⟩

/-- What DateRead is to answer. -/
def Told (l : List UInt8) (e : Ending) : Prop := rd l = none ∧ e = .returned (.tuple #[.int .i64 0, .int .i64 3]) ∨ ∃ y m d : Int, rd l = some (y, m, d) ∧ (vld y m d = true ∧ e = .returned (.tuple #[.int .i64 (num y m d), .int .i64 0]) ∨ vld y m d = false ∧ e = .returned (.tuple #[.int .i64 0, .int .i64 4]))

set_option maxHeartbeats 4000000 in
theorem DateRead_loop (s : ByteArray) (w : World) (h10 : s.size = 10) (hq : (((s[4]'(by omega)).toNat : Int) != 45) = false) (hq' : (((s[7]'(by omega)).toNat : Int) != 45) = false) (HF : Hid (s.data.toList.getD 4 0 = 45 ∧ s.data.toList.getD 7 0 = 45)) :
    Calls Tryd.prog 14 #[.string s] w fun e w' => Told s.data.toList e ∧ Below w.heap.size w w' := by
  go_enter Tryd.func14, Tryd.ntmps14
  go_wp2_with fail
  go_loopw [23] (fun i wr => ∃ (k : Nat) (y m d : Int), k ≤ 10 ∧ i = .int .i64 k ∧ Kept s w k y m d wr) (fun i _ => 10 - (intOf i).toNat)
  case atStart => exact ⟨0, 0, 0, 0, by omega, rfl, kept_start _ _ _⟩
  case round =>
    obtain ⟨k, y, m, d, hk, rfl, hK⟩ := hrel
    have HK : Hid (Kept s w k y m d wr) := hK
    obtain ⟨hS, c0, c1, c2, f0, f1, f2, hB⟩ := hK
    obtain ⟨⟨b1, b2⟩, ⟨b3, b4⟩, b5, b6⟩ := hS.bd hk
    clear hS hB
    by_cases hlt : k < 10
    · have hkn : k = 0 ∨ k = 1 ∨ k = 2 ∨ k = 3 ∨ k = 4 ∨ k = 5 ∨ k = 6 ∨ k = 7 ∨ k = 8 ∨ k = 9 := by omega
      rcases hkn with rfl | rfl | rfl | rfl | rfl | rfl | rfl | rfl | rfl | rfl
      · rcases (show (((s[0].toNat : Int) < 48 ∨ (48 : Int) ≤ (s[0].toNat : Int) ∧ 57 < (s[0].toNat : Int))) ∨ (48 : Int) ≤ (s[0].toNat : Int) ∧ (s[0].toNat : Int) ≤ 57 by omega) with hbad | hgood
        · have HN : Hid (rd s.data.toList = none) := HK.out.1.bad (by simpa using h10) (by omega) (by omega) (by omega) (by rw [byte_at (by omega)]; omega)
          rcases hbad with hbad | ⟨hbad, hbad'⟩
          all_goals
            go_wp2
            go_ret2
            exact ⟨.inl ⟨HN.out, rfl⟩, HK.out.2.2.2.2.2.2.2⟩
        · have HG : Hid _ := kept_y HK.out (by omega) (show 0 < s.size by omega) hgood
          obtain ⟨g1, g2⟩ := hgood
          go_wp2
          go_region
          go_wp2
          go_roundw
          case rel => exact ⟨1, (y * 10 + ((s[0].toNat : Int) - 48)), m, d, by omega, rfl, HG.out⟩
          case measure => simp [intOf]
      · rcases (show (((s[1].toNat : Int) < 48 ∨ (48 : Int) ≤ (s[1].toNat : Int) ∧ 57 < (s[1].toNat : Int))) ∨ (48 : Int) ≤ (s[1].toNat : Int) ∧ (s[1].toNat : Int) ≤ 57 by omega) with hbad | hgood
        · have HN : Hid (rd s.data.toList = none) := HK.out.1.bad (by simpa using h10) (by omega) (by omega) (by omega) (by rw [byte_at (by omega)]; omega)
          rcases hbad with hbad | ⟨hbad, hbad'⟩
          all_goals
            go_wp2
            go_ret2
            exact ⟨.inl ⟨HN.out, rfl⟩, HK.out.2.2.2.2.2.2.2⟩
        · have HG : Hid _ := kept_y HK.out (by omega) (show 1 < s.size by omega) hgood
          obtain ⟨g1, g2⟩ := hgood
          go_wp2
          go_region
          go_wp2
          go_roundw
          case rel => exact ⟨2, (y * 10 + ((s[1].toNat : Int) - 48)), m, d, by omega, rfl, HG.out⟩
          case measure => simp [intOf]
      · rcases (show (((s[2].toNat : Int) < 48 ∨ (48 : Int) ≤ (s[2].toNat : Int) ∧ 57 < (s[2].toNat : Int))) ∨ (48 : Int) ≤ (s[2].toNat : Int) ∧ (s[2].toNat : Int) ≤ 57 by omega) with hbad | hgood
        · have HN : Hid (rd s.data.toList = none) := HK.out.1.bad (by simpa using h10) (by omega) (by omega) (by omega) (by rw [byte_at (by omega)]; omega)
          rcases hbad with hbad | ⟨hbad, hbad'⟩
          all_goals
            go_wp2
            go_ret2
            exact ⟨.inl ⟨HN.out, rfl⟩, HK.out.2.2.2.2.2.2.2⟩
        · have HG : Hid _ := kept_y HK.out (by omega) (show 2 < s.size by omega) hgood
          obtain ⟨g1, g2⟩ := hgood
          go_wp2
          go_region
          go_wp2
          go_roundw
          case rel => exact ⟨3, (y * 10 + ((s[2].toNat : Int) - 48)), m, d, by omega, rfl, HG.out⟩
          case measure => simp [intOf]
      · rcases (show (((s[3].toNat : Int) < 48 ∨ (48 : Int) ≤ (s[3].toNat : Int) ∧ 57 < (s[3].toNat : Int))) ∨ (48 : Int) ≤ (s[3].toNat : Int) ∧ (s[3].toNat : Int) ≤ 57 by omega) with hbad | hgood
        · have HN : Hid (rd s.data.toList = none) := HK.out.1.bad (by simpa using h10) (by omega) (by omega) (by omega) (by rw [byte_at (by omega)]; omega)
          rcases hbad with hbad | ⟨hbad, hbad'⟩
          all_goals
            go_wp2
            go_ret2
            exact ⟨.inl ⟨HN.out, rfl⟩, HK.out.2.2.2.2.2.2.2⟩
        · have HG : Hid _ := kept_y HK.out (by omega) (show 3 < s.size by omega) hgood
          obtain ⟨g1, g2⟩ := hgood
          go_wp2
          go_region
          go_wp2
          go_roundw
          case rel => exact ⟨4, (y * 10 + ((s[3].toNat : Int) - 48)), m, d, by omega, rfl, HG.out⟩
          case measure => simp [intOf]
      · go_wp2
        refine ⟨⟨5, y, m, d, by omega, rfl, kept_skip HK.out (by omega)⟩, by simp [intOf]⟩
      · rcases (show (((s[5].toNat : Int) < 48 ∨ (48 : Int) ≤ (s[5].toNat : Int) ∧ 57 < (s[5].toNat : Int))) ∨ (48 : Int) ≤ (s[5].toNat : Int) ∧ (s[5].toNat : Int) ≤ 57 by omega) with hbad | hgood
        · have HN : Hid (rd s.data.toList = none) := HK.out.1.bad (by simpa using h10) (by omega) (by omega) (by omega) (by rw [byte_at (by omega)]; omega)
          rcases hbad with hbad | ⟨hbad, hbad'⟩
          all_goals
            go_wp2
            go_ret2
            exact ⟨.inl ⟨HN.out, rfl⟩, HK.out.2.2.2.2.2.2.2⟩
        · have HG : Hid _ := kept_m HK.out (by omega) (show 5 < s.size by omega) hgood
          obtain ⟨g1, g2⟩ := hgood
          go_wp2
          go_region
          go_wp2
          go_roundw
          case rel => exact ⟨6, y, (m * 10 + ((s[5].toNat : Int) - 48)), d, by omega, rfl, HG.out⟩
          case measure => simp [intOf]
      · rcases (show (((s[6].toNat : Int) < 48 ∨ (48 : Int) ≤ (s[6].toNat : Int) ∧ 57 < (s[6].toNat : Int))) ∨ (48 : Int) ≤ (s[6].toNat : Int) ∧ (s[6].toNat : Int) ≤ 57 by omega) with hbad | hgood
        · have HN : Hid (rd s.data.toList = none) := HK.out.1.bad (by simpa using h10) (by omega) (by omega) (by omega) (by rw [byte_at (by omega)]; omega)
          rcases hbad with hbad | ⟨hbad, hbad'⟩
          all_goals
            go_wp2
            go_ret2
            exact ⟨.inl ⟨HN.out, rfl⟩, HK.out.2.2.2.2.2.2.2⟩
        · have HG : Hid _ := kept_m HK.out (by omega) (show 6 < s.size by omega) hgood
          obtain ⟨g1, g2⟩ := hgood
          go_wp2
          go_region
          go_wp2
          go_roundw
          case rel => exact ⟨7, y, (m * 10 + ((s[6].toNat : Int) - 48)), d, by omega, rfl, HG.out⟩
          case measure => simp [intOf]
      · go_wp2
        refine ⟨⟨8, y, m, d, by omega, rfl, kept_skip HK.out (by omega)⟩, by simp [intOf]⟩
      · rcases (show (((s[8].toNat : Int) < 48 ∨ (48 : Int) ≤ (s[8].toNat : Int) ∧ 57 < (s[8].toNat : Int))) ∨ (48 : Int) ≤ (s[8].toNat : Int) ∧ (s[8].toNat : Int) ≤ 57 by omega) with hbad | hgood
        · have HN : Hid (rd s.data.toList = none) := HK.out.1.bad (by simpa using h10) (by omega) (by omega) (by omega) (by rw [byte_at (by omega)]; omega)
          rcases hbad with hbad | ⟨hbad, hbad'⟩
          all_goals
            go_wp2
            go_ret2
            exact ⟨.inl ⟨HN.out, rfl⟩, HK.out.2.2.2.2.2.2.2⟩
        · have HG : Hid _ := kept_d HK.out (by omega) (show 8 < s.size by omega) hgood
          obtain ⟨g1, g2⟩ := hgood
          go_wp2
          go_region
          go_wp2
          go_roundw
          case rel => exact ⟨9, y, m, (d * 10 + ((s[8].toNat : Int) - 48)), by omega, rfl, HG.out⟩
          case measure => simp [intOf]
      · rcases (show (((s[9].toNat : Int) < 48 ∨ (48 : Int) ≤ (s[9].toNat : Int) ∧ 57 < (s[9].toNat : Int))) ∨ (48 : Int) ≤ (s[9].toNat : Int) ∧ (s[9].toNat : Int) ≤ 57 by omega) with hbad | hgood
        · have HN : Hid (rd s.data.toList = none) := HK.out.1.bad (by simpa using h10) (by omega) (by omega) (by omega) (by rw [byte_at (by omega)]; omega)
          rcases hbad with hbad | ⟨hbad, hbad'⟩
          all_goals
            go_wp2
            go_ret2
            exact ⟨.inl ⟨HN.out, rfl⟩, HK.out.2.2.2.2.2.2.2⟩
        · have HG : Hid _ := kept_d HK.out (by omega) (show 9 < s.size by omega) hgood
          obtain ⟨g1, g2⟩ := hgood
          go_wp2
          go_region
          go_wp2
          go_roundw
          case rel => exact ⟨10, y, m, (d * 10 + ((s[9].toNat : Int) - 48)), by omega, rfl, HG.out⟩
          case measure => simp [intOf]
    · obtain rfl : k = 10 := by omega
      have HR : Hid (rd s.data.toList = some (y, m, d)) := HK.out.1.end_ (by simpa using h10) HF.out.1 HF.out.2
      cases hv : vld y m d
      · go_wp2
        go_quiet ((go_at_call 32; exact Calls.quiet_of_same (DayOf_no _ _ _ _ hv)))
        go_wp2
        go_ret2
        exact ⟨.inr ⟨y, m, d, HR.out, .inr ⟨hv, rfl⟩⟩, below_drews HK.out.2.2.2.2.2.2.2 _⟩
      · go_wp2
        go_quiet ((go_at_call 32; exact Calls.quiet_of_same (DayOf_yes _ _ _ _ hv)))
        go_wp2
        go_ret2
        exact ⟨.inr ⟨y, m, d, HR.out, .inl ⟨hv, rfl⟩⟩, below_drews HK.out.2.2.2.2.2.2.2 _⟩

theorem DateRead_any (s : ByteArray) (w : World) : Calls Tryd.prog 14 #[.string s] w fun e w' => Told s.data.toList e ∧ Below w.heap.size w w' := by
  by_cases h10 : s.size = 10
  · have g4 := getD_byte s 4 (by omega)
    have g7 := getD_byte s 7 (by omega)
    by_cases h4 : s[4]'(by omega) = 45
    · have q4 : (((s[4]'(by omega)).toNat : Int) != 45) = false := by rw [dash, h4]; rfl
      by_cases h7 : s[7]'(by omega) = 45
      · have q7 : (((s[7]'(by omega)).toNat : Int) != 45) = false := by rw [dash, h7]; rfl
        exact DateRead_loop s w h10 q4 q7 ⟨g4.trans h4, g7.trans h7⟩
      · refine (DateRead_dash s w h10 (.inr ⟨q4, by rw [dash]; simpa using h7⟩)).mono ?_
        rintro e w' ⟨rfl, hb⟩
        refine ⟨.inl ⟨?_, rfl⟩, hb⟩
        unfold rd
        rw [if_neg (fun h => h7 (g7 ▸ h.2.2))]
    · refine (DateRead_dash s w h10 (.inl (by rw [dash]; simpa using h4))).mono ?_
      rintro e w' ⟨rfl, hb⟩
      refine ⟨.inl ⟨?_, rfl⟩, hb⟩
      unfold rd
      rw [if_neg (fun h => h4 (g4 ▸ h.2.1))]
  · refine (DateRead_short s w (by simp; omega)).mono ?_
    rintro e w' ⟨rfl, hb⟩
    refine ⟨.inl ⟨?_, rfl⟩, hb⟩
    unfold rd
    rw [if_neg (fun h => h10 (by simpa using h.1))]

theorem DateRead_form (s : ByteArray) (w : World) (H : Hid (rd s.data.toList = none)) :
    Calls Tryd.prog 14 #[.string s] w fun e w' => e = .returned (.tuple #[.int .i64 0, .int .i64 3]) ∧ Below w.heap.size w w' := by
  refine (DateRead_any s w).mono ?_
  rintro e w' ⟨h | ⟨y, m, d, h, _⟩, hb⟩
  · exact ⟨h.2, hb⟩
  · rw [H.out] at h; exact absurd h (by simp)
theorem DateRead_yes (s : ByteArray) (w : World) (y m d : Int) (H : Hid (rd s.data.toList = some (y, m, d))) (hv : vld y m d = true) :
    Calls Tryd.prog 14 #[.string s] w fun e w' => e = .returned (.tuple #[.int .i64 (num y m d), .int .i64 0]) ∧ Below w.heap.size w w' := by
  refine (DateRead_any s w).mono ?_
  rintro e w' ⟨h | ⟨y', m', d', h, h'⟩, hb⟩
  · rw [H.out] at h; exact absurd h.1 (by simp)
  · rw [H.out] at h
    simp only [Option.some.injEq, Prod.mk.injEq] at h
    obtain ⟨rfl, rfl, rfl⟩ := h
    rcases h' with h' | h'
    · exact ⟨h'.2, hb⟩
    · rw [hv] at h'; exact absurd h'.1 (by simp)
theorem DateRead_no (s : ByteArray) (w : World) (y m d : Int) (H : Hid (rd s.data.toList = some (y, m, d))) (hv : vld y m d = false) :
    Calls Tryd.prog 14 #[.string s] w fun e w' => e = .returned (.tuple #[.int .i64 0, .int .i64 4]) ∧ Below w.heap.size w w' := by
  refine (DateRead_any s w).mono ?_
  rintro e w' ⟨h | ⟨y', m', d', h, h'⟩, hb⟩
  · rw [H.out] at h; exact absurd h.1 (by simp)
  · rw [H.out] at h
    simp only [Option.some.injEq, Prod.mk.injEq] at h
    obtain ⟨rfl, rfl, rfl⟩ := h
    rcases h' with h' | h'
    · rw [hv] at h'; exact absurd h'.1 (by simp)
    · exact ⟨h'.2, hb⟩
end Go.Proofs.YtbcfdleijpicgaaDoor
