/- What the functions of package cron that read sets, and Parse, answer: contracts, each proved by a walk over its own text. -/
import Derived.Test.YthebcdadoinflaaDoorRds
import Derived.Test.YthebcdadoinflaaDoorPrt
import Derived.Test.YthebcdadoinflaaDoorNxt
import Derived.Shelf.Strings.PiecesUse
namespace Go.Proofs.YthebcdadoinflaaDoor
open Go.RowKit Cal Crn Txt

theorem bytes_mk (x : ByteArray) : ByteArray.mk x.data.toList.toArray = x := by cases x; simp
theorem pieces_of {bs : List ByteArray} {ls : List (List UInt8)} (h : bs.map (·.data.toList) = ls) : bs = ls.map fun x => ByteArray.mk x.toArray := by
  rw [← h, List.map_map]
  conv => lhs; rw [← List.map_id bs]
  apply List.map_congr_left
  intro x _
  exact (bytes_mk x).symm
/-- The cells of the pieces. -/
def cellsP (ls : List (List UInt8)) : Array Value := ((ls.map fun x => ByteArray.mk x.toArray).map Value.string).toArray
/-- strings.Split at one byte. -/
theorem split_any (l : List UInt8) (c : UInt8) (w : World) (hT : Tx w) (hl : l.length ≤ 200) :
    Calls Tryd.prog 16 #[.string ⟨l.toArray⟩, .string ⟨#[c]⟩] w fun e w' =>
      e = .returned (.slice (some ⟨w.heap.size, 0, none⟩) (sp c l).length (sp c l).length) ∧ w' = w.alloc (.cells (cellsP (sp c l)) 9) := by
  obtain ⟨m, hm⟩ := hT.x
  have h := Tryd.strings_Split ⟨l.toArray⟩ ⟨#[c]⟩ m w (by rw [mk_size]; omega) hm (Nat.le_refl 1)
  have e0 : Lib.countB ⟨l.toArray⟩ ⟨#[c]⟩ = l.count c := by
    show Lib.count (ByteArray.mk l.toArray).data.toList (ByteArray.mk #[c]).data.toList = _
    rw [show (ByteArray.mk #[c]).data.toList = [c] from rfl, mk_data, Lib.count_one]
  rw [e0] at h
  have e1 := Lib.splitB_data ⟨#[c]⟩ 0 (l.count c) ⟨l.toArray⟩
  rw [show (ByteArray.mk #[c]).data.toList = [c] from rfl, mk_data, split_sp c l.length l (Nat.le_refl _)] at e1
  rw [pieces_of e1] at h
  have e2 : (sp c l).length = l.count c + 1 := by
    have := Lib.splitB_all ⟨#[c]⟩ (Nat.le_refl 1) 0 (l.count c) ⟨l.toArray⟩ e0
    rw [pieces_of e1, List.length_map] at this
    exact this
  rw [← e2] at h
  exact h
theorem piece_at (w : World) (ls : List (List UInt8)) (T : TypeId) {k : Nat} (hk : k < ls.length) :
    (w.alloc (.cells (cellsP ls) T)).cell? ⟨w.heap.size, k, none⟩ = some (.string ⟨(ls.getD k []).toArray⟩) := by
  refine Lib.pieces_cell_at w _ T k _ ?_
  rw [List.getElem?_map, List.getD_eq_getElem?_getD, List.getElem?_eq_getElem hk]
  rfl
theorem mem_getD {ls : List (List UInt8)} {k : Nat} (hk : k < ls.length) : ls.getD k [] ∈ ls := by
  rw [List.getD_eq_getElem?_getD, List.getElem?_eq_getElem hk]
  exact List.getElem_mem hk
theorem take_next {ls : List (List UInt8)} {k : Nat} (hk : k < ls.length) : ls.take (k + 1) = ls.take k ++ [ls.getD k []] := by
  rw [List.take_succ_eq_append_getElem hk, List.getD_eq_getElem?_getD, List.getElem?_eq_getElem hk]
  rfl

set_option maxHeartbeats 2000000 in
theorem readSet_any (all lo hi : Nat) (ha : Al all lo hi) (l : List UInt8) (hl : l.length ≤ 200) (r : Option Nat) (HR : Hid (setO lo hi l = r)) (w : World) (hT : Tx w) :
    Calls Tryd.prog 17 #[.string ⟨l.toArray⟩, .int .u64 all] w fun e w' => e = .returned (.tuple #[.int .u64 ((r.getD 0 : Nat) : Int), .bool r.isSome]) ∧ Below w.heap.size w w' := by
  have c := split_any l 44 w hT hl
  have hlow := ha.low
  have htop := ha.top
  have hne := sp_ne 44 l
  have hlen : (sp 44 l).length ≤ 201 := by
    have := sp_count 44 l
    omega
  have hmem := sp_len 44 l
  have HS : Hid (itemsO lo hi (sp 44 l) 0 = r) := HR
  clear HR
  generalize ByteArray.mk l.toArray = s at *
  generalize sp 44 l = ls at *
  go_enter Tryd.func17, Tryd.ntmps17
  go_wp2_with (first | (go_at_call 16; refine c.mono ?_; rintro e w' ⟨rfl, rfl⟩))
  go_loopw [6, 14] (fun v i wr => ∃ (k a : Nat), i = .int .i64 k ∧ k ≤ ls.length ∧ v = .int .u64 a ∧ Hid (itemsO lo hi (ls.take k) 0 = some a) ∧ Below (w.heap.size + 1) (w.alloc (.cells (cellsP ls) 9)) wr) (fun _ i _ => ls.length - (intOf i).toNat)
  case atStart => exact ⟨0, 0, rfl, by omega, rfl, rfl, Below.refl _ _⟩
  case round =>
    obtain ⟨k, a, rfl, hk, rfl, hit, hB⟩ := hrel
    have hTr : Tx wr := (hT.alloc _).below hB (by simp)
    have hbw := (below_box w (.cells (cellsP ls) 9)).trans (hB.mono (by omega))
    by_cases hlt : k < ls.length
    · have hp := piece_at w ls 9 hlt
      rw [← hB.cell (p := ⟨w.heap.size, k, none⟩) (by simp)] at hp
      have hx := hmem _ (mem_getD hlt)
      have hnext := take_next hlt
      have HNX : Hid (ls.take (k + 1) = ls.take k ++ [ls.getD k []]) := hnext
      clear hnext
      generalize ls.getD k [] = x at *
      have halt := acc_lt hlow htop hit.out
      cases hi2 : itemO lo hi x with
      | none =>
        have hrn : r = none := by
          rw [← HS.out, ← List.take_append_drop (k + 1) ls]
          refine items_none lo hi _ _ _ ?_
          rw [HNX.out, items_snoc, hit.out, hi2]
          rfl
        subst hrn
        go_wp2_with fail
        refine (readItem_any all lo hi ha x (by omega) none hi2 _ hTr).mono ?_
        rintro e w2 ⟨rfl, n, rfl⟩
        go_wp2_with fail
        go_ret2
        exact ⟨rfl, below_draws hbw n⟩
      | some v =>
        have hvlt := fin_lt (item_fin hlow hi2) htop
        have hnx : itemsO lo hi (ls.take (k + 1)) 0 = some (a ||| v) := by rw [HNX.out, items_snoc, hit.out, hi2]; rfl
        have HX : Hid (itemsO lo hi (ls.take (k + 1)) 0 = some (a ||| v)) := hnx
        clear hnx
        go_wp2_with fail
        refine (readItem_any all lo hi ha x (by omega) (some v) hi2 _ hTr).mono ?_
        rintro e w2 ⟨rfl, n, rfl⟩
        go_wp2_with fail
        go_roundw
        case rel => exact ⟨k + 1, a ||| v, by go_num, by omega, by rw [bits_or_u64_nat _ _ halt hvlt], HX, below_draws hB n⟩
        case measure => simp [intOf]; omega
    · have hra : r = some a := by
        rw [← HS.out, ← hit.out, List.take_of_length_le (by omega)]
      subst hra
      go_wp2_with fail
      go_ret2
      exact ⟨rfl, hbw⟩
end Go.Proofs.YthebcdadoinflaaDoor
