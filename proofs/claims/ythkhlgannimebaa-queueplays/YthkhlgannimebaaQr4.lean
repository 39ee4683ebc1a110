/- The reference's queue, walked: Row. -/
import Derived.Test.YthkhlgannimebaaQr3
import Derived.StillTailTactics
namespace Go.Proofs.Ythkhlgannimebaa
open Go.RowKit Go.Maps Go.Sort Qum
set_option linter.unusedSectionVars false

def lenOf' : Value → Nat
  | .slice _ n _ => n
  | _ => 0

/-- What stands between two rounds of Row. -/
structure RowW (w : World) (L : List Th) (ov lv : Value) (wr : World) (K M : List Th) (p1 p2 : Option Addr) (c1 c2 : Nat) : Prop where
  ov : ov = .slice p1 K.length c1
  lv : lv = .slice p2 M.length c2
  inv : RowI L K M
  r1 : Rrow wr (.slice p1 K.length c1) K.length (flatI K)
  r2 : Rrow wr (.slice p2 M.length c2) M.length (flatI M)
  dj : ∀ k, Value.ownBlock (.slice p1 K.length c1) = some k → Value.ownBlock (.slice p2 M.length c2) ≠ some k
  f1 : ∀ k, Value.ownBlock (.slice p1 K.length c1) = some k → w.heap.size ≤ k
  f2 : ∀ k, Value.ownBlock (.slice p2 M.length c2) = some k → w.heap.size ≤ k
  bl : Below w.heap.size w wr

theorem Rrow.at_ {w : World} {n cap : Nat} {p : Option Addr} {xs : List Value} (h : Rrow w (.slice p n cap) n xs) (h0 : 0 < n) : ∃ g, p = some ⟨g, 0, none⟩ ∧ n ≤ cap := by
  rcases h.2 with ⟨_, h1⟩ | ⟨g, cap', cur, hv, _, hc, _⟩
  · omega
  · obtain ⟨rfl, rfl⟩ : p = some ⟨g, 0, none⟩ ∧ cap = cap' := by simpa using hv
    exact ⟨g, rfl, hc⟩
theorem Rrow.items {w : World} {cap g : Nat} {L : List Th} (h : Rrow w (.slice (some ⟨g, 0, none⟩) L.length cap) L.length (flatI L)) {j : Nat} (hj : j < L.length) : w.cell? ⟨g, j * 2, none⟩ = some (.int .i64 (th L j).p) ∧ w.cell? ⟨g, j * 2 + 1, none⟩ = some (.int .i64 (th L j).i) :=
  ⟨(h.cells (by omega)).trans (flatI_get hj).1, (h.cells (by omega)).trans (flatI_get hj).2⟩
theorem drewN_below' {B : Nat} {w wz : World} (h : Below B w wz) (q : Nat) : Below B w (wz.drewN q) := ⟨h.os, h.tape, h.output, h.size, h.block⟩

set_option maxHeartbeats 2000000 in
set_option maxRecDepth 100000 in
theorem row_any {w : World} {mb cap : Nat} {p : Option Addr} {L : List Th} (h : Rfq w mb (.slice p L.length cap) L) (hlen : L.length ≤ 200) (ht : L.Pairwise (fun x y => x.t < y.t)) :
    Calls Try.prog 12 #[.pointer (some ⟨mb, 0, none⟩)] w fun e w' => ∃ (p' : Option Addr) (cap' : Nat), e = .returned (.slice p' L.length cap') ∧ Rrow w' (.slice p' L.length cap') L.length (flatI (srt L)) ∧ Below w.heap.size w w' := by
  have c0 := h.slot
  have hrow := h.row
  have hlen' : Hid (L.length ≤ 200) := hlen
  have hinc : Hid (L.Pairwise (fun x y => x.t < y.t)) := ht
  clear hlen ht h
  go_enter Try.func12, Try.ntmps12
  go_wp2_with (first
    | (at_builtin; refine wpList_app_all rfl _ _ rfl rfl rfl hrow (flatI_one L) (by have := hlen'.out; omega) ?_; intro p2 c2 w2 hr2 hg2 hf2; clear hrow c0)
    | go_in)
  have hstart : Hid (RowW w L (.slice none 0 0) (.slice p2 L.length c2) w2 [] L none p2 0 c2) := by
    refine ⟨rfl, rfl, ⟨by simp, hinc.out, by simp⟩, Rrow_nil _, hr2, fun k hk => by simp [Value.ownBlock] at hk, fun k hk => by simp [Value.ownBlock] at hk, hf2, ⟨hg2.os, hg2.tape, hg2.output, hg2.size, fun k hk => hg2.block k hk (by simp)⟩⟩
  clear hr2 hg2 hf2 hinc
  go_loopw [3, 4] (fun ov lv wr => ∃ K M p1 p2 c1 c2, RowW w L ov lv wr K M p1 p2 c1 c2)
    (fun _ lv _ => lenOf' lv)
  case atStart => exact ⟨_, _, _, _, _, _, hstart.out⟩
  case round =>
    clear hstart
    obtain ⟨K, M, p1, p3, c1, c3, hR⟩ := hrel
    have hR' : Hid (RowW w L u3 u4 wr K M p1 p3 c1 c3) := hR
    obtain ⟨rfl, rfl, hinv, hr1, hr2, hdj, hf1, hf2, hbl⟩ := hR
    have hML : Hid (M.length ≤ 200 ∧ K.length ≤ 200) := ⟨by have := hinv.len; have := hlen'.out; omega, by have := hinv.len; have := hlen'.out; omega⟩
    clear hinv hdj hf1 hf2
    by_cases h0 : 0 < M.length
    · have h0i : (0 : Int) < (M.length : Int) := by omega
      obtain ⟨g, rfl, hcap⟩ := hr2.at_ h0
      have hcapH : Hid (M.length ≤ c3) := hcap
      clear hcap
      rename World => wo
      go_wp2
      go_loopw [5, 18] (fun bv iv w3 => ∃ j b : Nat, iv = .int .i64 j ∧ bv = .int .i64 b ∧ j ≤ M.length ∧ Hid (IsB M j b) ∧ Below wo.heap.size wo w3)
        (fun _ iv _ => M.length - (intOf iv).toNat)
      case atStart => exact ⟨0, 0, rfl, rfl, Nat.zero_le _, ⟨h0, fun t ht => by omega, fun t ht => by omega⟩, Below.refl _ _⟩
      case round =>
        obtain ⟨j, b, rfl, rfl, hjl, hB, hb3⟩ := hrel
        have hr3 := hr2.below hb3
        have hbM : Hid (b < M.length) := hB.out.1
        have hbi : (b : Int) < (M.length : Int) := by have := hbM.out; omega
        obtain ⟨y0, y1⟩ := hr3.items hbM.out
        by_cases hj : j < M.length
        · obtain ⟨z0, z1⟩ := hr3.items hj
          have hji : (j : Int) < (M.length : Int) := by omega
          have hj2 : Hid (j ≤ 100000) := Nat.le_trans hjl (Nat.le_trans hML.out.1 (by decide))
          have hst : Hid (((th M b).p < (th M j).p → IsB M (j + 1) j) ∧ ((th M j).p ≤ (th M b).p → IsB M (j + 1) b)) := ⟨isB_new hB.out hj, isB_old hB.out⟩
          generalize th M j = x at *
          generalize th M b = y at *
          clear hr1 hr3 hB
          go_wp2
          have hbz : Below wo.heap.size wo (wr.alloc (.cells #[.int .i64 x.p, .int .i64 x.i] 30)) := hb3.alloc hb3.size _
          have k0 : (wr.alloc (.cells #[.int .i64 x.p, .int .i64 x.i] 30)).cell? ⟨wr.heap.size, 0, none⟩ = some (.int .i64 x.p) := (cell_of_row _ _ 0 _ _ _ (heap_alloc_new wr _)).trans rfl
          have yy0 := cell_alloc y0 (.cells #[.int .i64 x.p, .int .i64 x.i] 30)
          clear z0 z1 y0 y1 hb3
          generalize wr.alloc (.cells #[.int .i64 x.p, .int .i64 x.i] 30) = wz at *
          generalize wr.heap.size = hc at *
          by_cases hd : y.p < x.p
          · have hst' : Hid (IsB M (j + 1) j) := hst.out.1 hd
            clear hst
            go_quiet (fail)
            go_wp2
            refine ⟨⟨j + 1, j, ?_, rfl, hj, hst', drewN_below' hbz nq⟩, ?_⟩
            · first | exact int_succ j | exact int_wsucc hj2.out
            · first | exact meas_1 hj | exact meas_w hj hj2.out
          · have hst' : Hid (IsB M (j + 1) b) := hst.out.2 (by omega)
            clear hst
            go_quiet (fail)
            go_wp2
            refine ⟨⟨j + 1, b, ?_, rfl, hj, hst', drewN_below' hbz nq⟩, ?_⟩
            · first | exact int_succ j | exact int_wsucc hj2.out
            · first | exact meas_1 hj | exact meas_w hj hj2.out
        · have hji : ¬ (j : Int) < (M.length : Int) := by omega
          have hBL : Hid (IsB M M.length b) := by have e : j = M.length := by omega
                                                  rw [← e]; exact hB
          have hr13 := (hr1.below hb3).alloc (.cells #[.int .i64 (th M b).p, .int .i64 (th M b).i] 30)
          clear hB hj hjl
          go_wp2_with (first
            | (at_builtin; refine wpList_app_one rfl _ _ rfl rfl rfl hr13 rfl (cells_new _ [.int .i64 (th M b).p, .int .i64 (th M b).i] _) (fun v hv => by simp at hv; rcases hv with rfl | rfl <;> rfl) (by have := hML.out; omega) ?_; intro p' c' w4 r4 hg4 hw4; clear hr13)
            | go_in)
          have hgA : (wr.alloc (.cells #[.int .i64 (th M b).p, .int .i64 (th M b).i] 30)).grownBy w4 (Value.ownBlock (.slice p1 K.length c1)) := hg4
          have hwA : Value.ownBlock (.slice p' (K.length + 1) c') = Value.ownBlock (.slice p1 K.length c1) ∨ Value.ownBlock (.slice p' (K.length + 1) c') = some (wr.heap.size + 1) := by
            have hw5 : Value.ownBlock (.slice p' (K.length + 1) c') = Value.ownBlock (.slice p1 K.length c1) ∨ Value.ownBlock (.slice p' (K.length + 1) c') = some (wr.alloc (.cells #[.int .i64 (th M b).p, .int .i64 (th M b).i] 30)).heap.size := hw4
            rwa [World.size_alloc] at hw5
          clear hg4 hw4 y0 y1
          have hdj := hR'.out.dj
          have hgne : some g ≠ Value.ownBlock (.slice p1 K.length c1) := fun e => hdj g e.symm rfl
          have hr4 : Rrow w4 (.slice (some ⟨g, 0, none⟩) M.length c3) M.length (flatI M) := (hr3.alloc (.cells #[.int .i64 (th M b).p, .int .i64 (th M b).i] 30)).kept (fun k hk => by
            obtain rfl : g = k := by simpa [Value.ownBlock] using hk
            exact hgA.block g (by have := hr3.lt g rfl; simp; omega) hgne)
          have hbc : (b : Int) ≤ (c3 : Int) := by have := hcapH.out; have := hbM.out; omega
          have hwj : IntKind.i64.wrap ((b : Int) + 1) = ((b + 1 : Nat) : Int) := by have := hML.out; have := hbM.out; rw [IntKind.wrap_i64]; omega
          have hb1 : (b : Int) + 1 ≤ (M.length : Int) := by omega
          have hb0 : (0 : Int) ≤ (b : Int) + 1 := by omega
          obtain ⟨A2, hA2, hA3⟩ : ∃ A2 : Addr, (if c3 = b + 1 then some (⟨g, 0, none⟩ : Addr) else some ⟨g, (b + 1) * 2, none⟩) = some A2 ∧ Hid (b + 1 < M.length → A2 = ⟨g, (b + 1) * 2, none⟩) := by
            by_cases e : c3 = b + 1
            · exact ⟨_, by rw [if_pos e], fun h => by have := hcapH.out; omega⟩
            · exact ⟨_, by rw [if_neg e], fun _ => rfl⟩
          have hR4 : Hid (Rrow w4 (.slice p' (K.length + 1) c') (K.length + 1) (flatI K ++ [.int .i64 (th M b).p, .int .i64 (th M b).i])) := r4
          have hr4H : Hid (Rrow w4 (.slice (some ⟨g, 0, none⟩) M.length c3) M.length (flatI M)) := hr4
          have hgH : Hid ((wr.alloc (.cells #[.int .i64 (th M b).p, .int .i64 (th M b).i] 30)).grownBy w4 (Value.ownBlock (.slice p1 K.length c1))) := hgA
          have hwH : Hid (Value.ownBlock (.slice p' (K.length + 1) c') = Value.ownBlock (.slice p1 K.length c1) ∨ Value.ownBlock (.slice p' (K.length + 1) c') = some (wr.heap.size + 1)) := hwA
          clear hr1 hr2 hr3 hr4 r4 hgA hwA hdj hgne
          go_still_tail 8, (by kernel_rfl)
          refine wpList_app_cut (g := g) (n := M.length) (cap := c3) (i := b) (c2 := c3 - (b + 1)) (A2 := A2) (xs := flatI M) rfl (.tmp 43) (.tmp 47) rfl (by simp [Act.eval]) (by simp [Act.eval]) (hr4H.out.kept (w' := w4.drew) (fun _ _ => rfl)) hbM.out hA3.out (by have := hML.out; omega) ?_
          intro k5 c5 w5 r5 hg5 hw5
          have hgB : w4.grownBy w5 (some g) := ⟨hg5.os, hg5.tape, hg5.output, hg5.size, fun k hk hn => hg5.block k hk hn⟩
          have hw5' : k5 = g ∨ k5 = w4.heap.size := hw5
          clear hg5 hw5
          go_wp2
          have hs4 : wr.heap.size + 1 ≤ w4.heap.size := by have := hgH.out.size; simpa using this
          have hso := hb3.size
          have hsw := hbl.size
          have hpl : ∀ k, Value.ownBlock (.slice p' (K.length + 1) c') = some k → k < w4.heap.size := hR4.out.lt
          have hf1 : ∀ k, Value.ownBlock (.slice p1 K.length c1) = some k → w.heap.size ≤ k := hR'.out.f1
          have hf2 : w.heap.size ≤ g := hR'.out.f2 g rfl
          have hdj : ∀ k, Value.ownBlock (.slice p1 K.length c1) = some k → some g ≠ some k := hR'.out.dj
          have hgl : g < wr.heap.size := (hR'.out.r2.below hb3).lt g rfl
          have hpg : ∀ k, Value.ownBlock (.slice p' (K.length + 1) c') = some k → k ≠ g ∧ w.heap.size ≤ k := fun k hk => by
            rcases hwH.out with e | e
            · rw [e] at hk
              exact ⟨fun e2 => hdj k hk (by rw [e2]), hf1 k hk⟩
            · rw [e] at hk
              cases hk
              exact ⟨by omega, by omega⟩
          have hle : (M.eraseIdx b).length = M.length - 1 := List.length_eraseIdx_of_lt hbM.out
          have hsn : flatI (K ++ [th M b]) = flatI K ++ [.int .i64 (th M b).p, .int .i64 (th M b).i] := flatI_snoc K (th M b)
          have hkl : (K ++ [th M b]).length = K.length + 1 := by simp
          refine ⟨⟨K ++ [th M b], M.eraseIdx b, p', some ⟨k5, 0, none⟩, c', c5, ?_⟩, ?_⟩
          · refine ⟨by rw [hkl], by rw [hle], hR'.out.inv.step hBL.out, ?_, ?_, ?_, ?_, ?_, ?_⟩
            · rw [hkl, hsn]
              exact hR4.out.kept fun k hk => hgB.block k (hpl k hk) (fun e => (hpg k hk).1 (by cases e; rfl))
            · rw [hle, flatI_erase]; exact r5
            · rw [hkl, hle]
              intro k hk e
              have e' : k5 = k := by simpa [Value.ownBlock] using e
              rcases hw5' with e5 | e5
              · exact (hpg k hk).1 (by omega)
              · have := hpl k hk; omega
            · rw [hkl]; exact fun k hk => (hpg k hk).2
            · intro k hk
              have e' : k5 = k := by simpa [Value.ownBlock] using hk
              rcases hw5' with e5 | e5 <;> omega
            · refine ⟨hgB.os.trans (hgH.out.os.trans (hb3.os.trans hbl.os)), hgB.tape.trans (hgH.out.tape.trans (hb3.tape.trans hbl.tape)), hgB.output.trans (hgH.out.output.trans (hb3.output.trans hbl.output)), by have := hgB.size; omega, fun k hk => ?_⟩
              rw [hgB.block k (by omega) (fun e => by cases e; omega), hgH.out.block k (by simp; omega) (fun e => by have := hf1 k e.symm; omega), Below.heap_alloc _ _ _ (by omega), hb3.block k (by omega), hbl.block k hk]
          · simp [lenOf']; omega
    · have hji : ¬ (0 : Int) < (M.length : Int) := by omega
      have hM0 : M.length = 0 := by omega
      have hKL : Hid (K = srt L) := hR'.out.inv.done hM0
      have hKl : Hid (K.length = L.length) := by have := hR'.out.inv.len; show _ = _; omega
      go_wp2
      go_ret
      refine ⟨p1, c1, by rw [← hKl.out]; rfl, ?_, hbl⟩
      rw [← hKL.out, ← hKl.out]
      exact hr1
end Go.Proofs.Ythkhlgannimebaa
