/- What the reference's Pieces answers (a text of at most two million bytes): a contract, proved by a walk over its own text. -/
import Derived.Test.YtmhidmocmolgfaaDoorSpl
import Derived.Test.YtmhidmocmolgfaaDoorNtx
import Derived.BigRegion
namespace Go.Proofs.YtmhidmocmolgfaaDoor
open Go.RowKit Spl
set_option linter.unusedSectionVars false
set_option linter.unusedVariables false

theorem strs_snoc (ls : List (List UInt8)) (x : List UInt8) : strs (ls ++ [x]) = strs ls ++ [.string ⟨x.toArray⟩] := by simp [strs]
theorem mk_size (l : List UInt8) : (ByteArray.mk l.toArray).size = l.length := by simp [ByteArray.size]
theorem cell_one_new (w : World) (u : Value) (t : TypeId) : ∀ j y, [u][j]? = some y → (w.alloc (.cells #[u] t)).cell? ((⟨w.heap.size, 0, none⟩ : Addr).add j) = some y := cells_new w [u] t
theorem below_box (w : World) (o : Obj) : Below w.heap.size w (w.alloc o) := (Below.refl _ _).alloc (Nat.le_refl _) o
/-- The last element of a row of one's own: its cell; and the row behind a store there. -/
theorem last_cell {w : World} {base n : Nat} {e : TypeId} {g cap : Nat} {ini : List (List UInt8)} {lst : List UInt8} (hn : n = ini.length + 1) (h : w.ownsRow base e 1 (.slice (some ⟨g, 0, none⟩) n cap) n (strs (ini ++ [lst]))) :
    w.cell? ⟨g, ini.length, none⟩ = some (.string ⟨lst.toArray⟩) ∧ w.frozen? ⟨g, ini.length, none⟩ = false ∧ base ≤ g ∧ g < w.heap.size := by
  rcases h.2 with ⟨h1, _⟩ | ⟨g', cap', cur, h1, h2, h3, h4, _, h5, h6⟩
  · cases h1
  · simp only [Value.slice.injEq, Option.some.injEq, Addr.mk.injEq] at h1
    obtain ⟨⟨rfl, _, _⟩, _, _⟩ := h1
    have e1 : (strs (ini ++ [lst]))[ini.length]? = some (.string ⟨lst.toArray⟩) := by rw [strs_snoc, List.getElem?_append_right (by rw [strs_len]; omega), strs_len]; simp
    rw [← h6, List.getElem?_take_of_lt (by omega)] at e1
    refine ⟨?_, by simp [World.frozen?, h3], h2, ?_⟩
    · simp [World.cell?, h3]
      simpa using e1
    · rcases Nat.lt_or_ge g w.heap.size with l | l
      · exact l
      · have e : w.heap[g]? = none := by simp; exact l
        rw [e] at h3
        cases h3
theorem last_set {w : World} {base n : Nat} {e : TypeId} {g cap : Nat} {ini : List (List UInt8)} {lst x : List UInt8} (hn : n = ini.length + 1) (h : w.ownsRow base e 1 (.slice (some ⟨g, 0, none⟩) n cap) n (strs (ini ++ [lst]))) :
    (w.setCell ⟨g, ini.length, none⟩ (.string ⟨x.toArray⟩)).ownsRow base e 1 (.slice (some ⟨g, 0, none⟩) n cap) n (strs (ini ++ [x])) := by
  rcases h.2 with ⟨h1, _⟩ | ⟨g', cap', cur, h1, h2, h3, h4, h7, h5, h6⟩
  · cases h1
  · simp only [Value.slice.injEq, Option.some.injEq, Addr.mk.injEq] at h1
    obtain ⟨⟨rfl, _, _⟩, _, rfl⟩ := h1
    refine ⟨by rw [strs_len]; simp; omega, Or.inr ⟨g, cap, cur.setIfInBounds ini.length (.string ⟨x.toArray⟩), rfl, h2, ?_, h4, h7, by rw [Array.size_setIfInBounds]; exact h5, ?_⟩⟩
    · simp [World.setCell, Array.getElem?_modify, h3]
    · have e0 : cur.toList.take n = strs ini ++ [.string ⟨lst.toArray⟩] := by rw [← strs_snoc, ← h6, Nat.mul_one]
      rw [Array.toList_setIfInBounds, Nat.mul_one, List.take_set, e0, strs_snoc, List.set_append_right _ _ (by rw [strs_len]; omega), strs_len]
      simp
theorem ext_one {s : ByteArray} {l : List UInt8} (hse : s = ByteArray.mk l.toArray) {k : Nat} (hk : k < l.length) (a : List UInt8) : ByteArray.mk a.toArray ++ s.extract k (k + 1) = ByteArray.mk (a ++ [l[k]]).toArray := by
  subst hse
  have e : (ByteArray.mk l.toArray).extract k (k + 1) = ByteArray.mk ([l[k]] : List UInt8).toArray := by
    apply ByteArray.ext
    apply Array.ext'
    rw [ByteArray.data_extract]
    simp
    rw [List.drop_eq_getElem_cons hk]
    rfl
  rw [e, ByteArray.mk_append_mk]
theorem owns_one (w : World) (x : Value) : (w.alloc (.cells #[x] 9)).ownsRow w.heap.size 9 1 (.slice (some ⟨w.heap.size, 0, none⟩) 1 1) 1 [x] := by
  refine ⟨rfl, Or.inr ⟨w.heap.size, 1, #[x], rfl, Nat.le_refl _, ?_, by omega, by unfold maxLen; omega, rfl, rfl⟩⟩
  show (w.heap.push _)[w.heap.size]? = _
  simp

set_option maxHeartbeats 4000000 in
theorem Pieces_any (l : List UInt8) (c : UInt8) (w : World) (hl : l.length ≤ 2000000) :
    Calls Tryd.prog 39 #[.string ⟨l.toArray⟩, .int .u8 c.toNat] w fun e w' => ∃ g cap : Nat, e = .returned (.slice (some ⟨g, 0, none⟩) (sp c l).length cap) ∧ w'.ownsRow w.heap.size 9 1 (.slice (some ⟨g, 0, none⟩) (sp c l).length cap) (sp c l).length (strs (sp c l)) ∧ Below w.heap.size w w' := by
  obtain ⟨s, hse⟩ : ∃ s, s = ByteArray.mk l.toArray := ⟨_, rfl⟩
  have hs : s.size = l.length := by rw [hse]; exact mk_size l
  have hbyte : ∀ k, (h : k < s.size) → (h' : k < l.length) → s[k] = l[k] := by subst hse; intro k h h'; rfl
  rw [← hse]
  have HSE : Hid (s = ByteArray.mk l.toArray) := hse
  have HB : Hid (∀ k, (h : k < s.size) → (h' : k < l.length) → s[k] = l[k]) := hbyte
  have hsl : s.size ≤ 2000000 := by omega
  have HS : Hid (s.size = l.length) := hs
  clear hse hbyte hs
  go_enter Tryd.func39, Tryd.ntmps39
  go_wp2_with fail
  go_loopw [5, 10] (fun v i wr => ∃ (k : Nat) (ini : List (List UInt8)) (lst : List UInt8) (g cap : Nat), i = .int .i64 k ∧ k ≤ s.size ∧ v = .slice (some ⟨g, 0, none⟩) (ini.length + 1) cap ∧ Hid (sp c (l.take k) = ini ++ [lst]) ∧ wr.ownsRow w.heap.size 9 1 v (ini.length + 1) (strs (ini ++ [lst])) ∧ Below w.heap.size w wr) (fun _ i _ => s.size - (intOf i).toNat)
  case atStart => exact ⟨0, [], [], w.heap.size, 1, rfl, by omega, rfl, rfl, owns_one w _, below_box w _⟩
  case round =>
    obtain ⟨k, ini, lst, g, cap, rfl, hk, rfl, hsp, hown, hB⟩ := hrel
    have hsz := hB.size
    have hil : ini.length ≤ 2000000 := by
      have h1 := sp_count c (l.take k)
      rw [hsp.out, List.length_append] at h1
      have h2 : (l.take k).length ≤ k := List.length_take_le _ _
      simp at h1
      omega
    by_cases hlt : k < s.size
    · have hkl : k < l.length := by rw [← HS.out]; exact hlt
      have hb := HB.out k hlt hkl
      have hnext : l.take (k + 1) = l.take k ++ [l[k]] := List.take_succ_eq_append_getElem hkl
      have HNX : Hid (l.take (k + 1) = l.take k ++ [l[k]]) := hnext
      clear hnext
      by_cases hc : l[k] = c
      · have hq : ((s[k].toNat : Int) == (c.toNat : Int)) = true := by rw [hb, hc]; simp
        have HC : Hid (l[k] = c) := hc
        clear hb hc
        go_wp2_with (at_builtin; obtain ⟨i0, hi, hz0, hz1, hz2⟩ := info_parts info_str; refine wpList_append_own _ rfl _ _ 55 rfl w.heap.size 9 i0 (.string ByteArray.empty) 1 16 Tryd.underlying55 hi hz0 hz1 hz2 rfl (by decide) _ _ _ rfl (hown.alloc _) ⟨wr.heap.size, 0, none⟩ 1 1 [.string ⟨#[]⟩] rfl rfl (cell_one_new _ _ _) (fun x hx => by simp at hx; subst hx; rfl) (by unfold maxLen; omega) (by omega) (by simp; omega) ?_; intro v' w4 hown' hgrow3 hnil3; clear hi hz0 hz1 hz2)
        go_roundw
        case rel =>
          obtain ⟨g3, cap3, hv3⟩ : ∃ g3 cap3, v' = .slice (some ⟨g3, 0, none⟩) (ini.length + 1 + 1) cap3 := by
            rcases hown'.2 with ⟨_, h⟩ | ⟨g3, cap3, _, h, _⟩
            · omega
            · exact ⟨g3, cap3, h⟩
          refine ⟨k + 1, ini ++ [lst], [], g3, cap3, by go_num, by omega, by rw [hv3]; simp, ?_, ?_, (hB.alloc hsz _).grown hgrow3 (by simp; omega) (fun q hq => (hown.lt q hq).1)⟩
          · show _ = _
            rw [HNX.out, HC.out, sp_snoc_eq, hsp.out]
          · rw [strs_snoc, List.length_append]
            exact hown'
        case measure => simp [intOf]; omega
      · have hq : ((s[k].toNat : Int) == (c.toNat : Int)) = false := by
          rw [hb]
          simp only [beq_eq_false_iff_ne]
          intro e
          exact hc (UInt8.toNat_inj.1 (by omega))
        have HC : Hid (l[k] ≠ c) := hc
        obtain ⟨lc, lf, lg, lz⟩ := last_cell rfl hown
        have hle : lst.length ≤ 2000000 := by
          have h1 := sp_len c (l.take k) lst (by rw [hsp.out]; simp)
          have h2 : (l.take k).length ≤ k := List.length_take_le _ _
          omega
        have hxe := ext_one HSE.out hkl lst
        have HXE : Hid (ByteArray.mk lst.toArray ++ s.extract k (k + 1) = ByteArray.mk (lst ++ [l[k]]).toArray) := hxe
        clear hb hc hxe
        have q1 : (0 : Int) ≤ (k : Int) := by omega
        have q2 : (k : Int) ≤ (k : Int) + 1 := by omega
        have q3 : (k : Int) + 1 ≤ (s.size : Int) := by omega
        have q4 : (0 : Int) ≤ (k : Int) + 1 := by omega
        go_wp2_with fail
        go_region
        rw [HXE.out]
        go_wp2_with fail
        go_roundw
        case rel =>
          refine ⟨k + 1, ini, lst ++ [l[k]], g, cap, by go_num, by omega, rfl, ?_, (last_set rfl hown).drew, (hB.setCell lg _).drew⟩
          show _ = _
          rw [HNX.out]
          exact sp_snoc_ne HC.out hsp.out
        case measure => simp [intOf]; omega
    · have hke : sp c l = ini ++ [lst] := by
        have := hsp.out
        rw [List.take_of_length_le (by rw [← HS.out]; omega)] at this
        exact this
      have HKE : Hid (sp c l = ini ++ [lst]) := hke
      clear hke
      go_wp2_with fail
      go_ret
      refine ⟨g, cap, ?_, ?_, hB⟩
      · rw [HKE.out]; simp
      · rw [HKE.out]
        have : (ini ++ [lst]).length = ini.length + 1 := by simp
        rw [this]
        exact hown
end Go.Proofs.YtmhidmocmolgfaaDoor
