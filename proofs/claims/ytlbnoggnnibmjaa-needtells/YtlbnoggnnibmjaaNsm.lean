/- Package need, walked: Sum. -/
import Derived.Test.YtlbnoggnnibmjaaNdc
namespace Go.Proofs.Ytlbnoggnnibmjaa
open Go.RowKit Ndm
set_option linter.unusedSectionVars false
set_option linter.unusedVariables false

theorem results_needB {f : Func} {tmps : Array Value} {w : World} {g : Nat} {cs : Array Value} {v : Value} (hf : f.results = #[.cell 2 23, .tmp 3]) (hp : tmps.getD 2 undef = .pointer (some ⟨g, 0, none⟩)) (hg : w.heap[g]? = some (.cells cs 23 (0, 0))) (hcs : cs.size = 3) (h7 : tmps.getD 3 undef = v) : (results f tmps).run Try.prog w = .ok (.tuple #[.agg cs, v]) w := by
  have hp' : tmps[2]?.getD undef = .pointer (some ⟨g, 0, none⟩) := by simpa using hp
  have h7' : tmps[3]?.getD undef = v := by simpa using h7
  simp [results, hf, hp', h7', asAddr, run_loadVar_row w g _ 23 cs (0, 0) _ hg Try.underlying23 rfl (need_info cs hcs)]

def uR (l : List N3) : N3 := if okL l then (match smL l nz with | some t => t | none => nz) else nz
def uE (l : List N3) : Int := if okL l then (match smL l nz with | some _ => 0 | none => 2) else 4
theorem aR_ok {a b : N3} (h1 : okN a = true) (h2 : okN b = true) (h3 : okN (addN a b) = true) : aR a b = addN a b ∧ aE a b = 0 := by
  unfold aR aE
  rw [h1, h2, h3]
  exact ⟨rfl, rfl⟩
theorem aR_no {a b : N3} (h1 : okN a = true) (h2 : okN b = true) (h3 : okN (addN a b) = false) : aR a b = nz ∧ aE a b = 2 := by
  unfold aR aE
  rw [h1, h2, h3]
  exact ⟨rfl, rfl⟩
theorem aR_bad {a b : N3} (h : (okN a && okN b) = false) : aR a b = nz ∧ aE a b = 4 := by
  unfold aR aE
  rw [h]
  exact ⟨rfl, rfl⟩

set_option maxHeartbeats 2000000 in
set_option maxRecDepth 100000 in
theorem Sum_any {w : World} {q : Option Addr} {l : List N3} {n cap : Nat} (hn : l.length = n) (h : Nds w q l) (hl : n ≤ 10000000000000) :
    Calls Try.prog 8 #[.slice q n cap] w fun e w' => e = .returned (.tuple #[.agg #[.int .i64 (uR l).x, .int .i64 (uR l).y, .int .i64 (uR l).z], .int .i64 (uE l)]) ∧ Below w.heap.size w w' := by
  have hlH : Hid (n ≤ 10000000000000) := hl
  have hnH : Hid (l.length = n) := hn
  have hEb : Hid (∀ w1, Below w.heap.size w w1 → Nds w1 q l) := fun w1 hb => h.below hb (Nat.le_refl _)
  have h1 : NBox (w.alloc (.cells #[.int .i64 nz.x, .int .i64 nz.y, .int .i64 nz.z] 23)) w.heap.size nz := heap_alloc_new _ _
  have hB0 : Below w.heap.size w (w.alloc (.cells #[.int .i64 nz.x, .int .i64 nz.y, .int .i64 nz.z] 23)) := (Below.refl _ _).alloc (Nat.le_refl _) _
  have hck := check_any (cap := cap) hn (hEb.out _ hB0) hl
  have hBH : Hid (Below w.heap.size w (w.alloc (.cells #[.int .i64 nz.x, .int .i64 nz.y, .int .i64 nz.z] 23))) := hB0
  have hs0 : w.heap.size ≤ (w.alloc (.cells #[.int .i64 nz.x, .int .i64 nz.y, .int .i64 nz.z] 23)).heap.size := hB0.size
  clear h hl hn hB0
  by_cases c : okL l = true
  · rw [c, show ce true = 0 from rfl] at hck
    have hcH : Hid (okL l = true) := c
    clear c
    go_enter Try.func8, Try.ntmps8
    go_wp2_with (first
      | (go_at_call 14; refine hck.mono ?_; rintro e w3 ⟨rfl, hb3⟩; have g1 : NBox w3 w.heap.size nz := (hb3.block w.heap.size h1.lt).trans h1; have hB3 : Hid (Below w.heap.size w w3) := hBH.out.trans (hb3.mono hs0); clear hck hb3)
      | go_in)
    have hk1 : Hid (NBox (w3.alloc (.cells #[.int .i64 0, .int .i64 0, .int .i64 0] 23)) w.heap.size nz) := (Below.heap_alloc _ _ _ g1.lt).trans g1
    have hk5 : Hid (NBox (w3.alloc (.cells #[.int .i64 0, .int .i64 0, .int .i64 0] 23)) w3.heap.size nz) := heap_alloc_new w3 _
    have hB4 : Hid (Below w.heap.size w (w3.alloc (.cells #[.int .i64 0, .int .i64 0, .int .i64 0] 23))) := hB3.out.alloc hB3.out.size _
    have hg5 : Hid (w.heap.size < w3.heap.size) := g1.lt
    generalize w3.alloc (.cells #[.int .i64 0, .int .i64 0, .int .i64 0] 23) = w4 at *
    generalize w3.heap.size = g5 at *
    clear g1 hB3 h1 hs0 hBH
    go_loopw [19] (fun iv wr => ∃ (k : Nat) (s : N3), iv = .int .i64 k ∧ k ≤ n ∧ Hid (smL (l.take k) nz = some s) ∧ Hid (okN s = true) ∧ NBox wr g5 s ∧ NBox wr w.heap.size nz ∧ Below w.heap.size w wr)
      (fun iv _ => n - (intOf iv).toNat)
    case atStart => exact ⟨0, nz, rfl, Nat.zero_le _, rfl, rfl, hk5.out, hk1.out, hB4.out⟩
    case round =>
      obtain ⟨k, s, rfl, hkn, hsm, hsk, y5, y1, hbl⟩ := hrel
      have hBr : Hid (Below w.heap.size w wr) := hbl
      have hsz := hbl.size
      by_cases hk : k < n
      · rcases hEb.out wr hbl with h0 | ⟨b, o, rfl, hA⟩
        · have := hnH.out; omega
        have x0 := hA.cx k (by have := hnH.out; omega)
        have x1 := hA.cy k (by have := hnH.out; omega)
        have x2 := hA.cz k (by have := hnH.out; omega)
        have hoa : Hid (okN (nE l k) = true) := okL_mem hcH.out (by have := hnH.out; omega)
        have hst : Hid (smL (l.take (k + 1)) nz = if okN (addN s (nE l k)) then some (addN s (nE l k)) else none) := smL_step (by have := hnH.out; omega) hsm.out
        have hki : (k : Int) < (n : Int) := by omega
        have hk2 : Hid (k ≤ 10000000000000) := by have := hlH.out; show _ ≤ _; omega
        have y5r : Hid (NBox wr g5 s) := y5
        have y1r : Hid (NBox wr w.heap.size nz) := y1
        generalize nE l k = a at *
        have hAd := fun w1 => Add_any s a w1
        have p5 : (wr.alloc (.cells #[.int .i64 a.x, .int .i64 a.y, .int .i64 a.z] 23)).heap[g5]? = some (.cells #[.int .i64 s.x, .int .i64 s.y, .int .i64 s.z] 23 (0, 0)) := (Below.heap_alloc _ _ _ y5.lt).trans y5
        have pa : (wr.alloc (.cells #[.int .i64 a.x, .int .i64 a.y, .int .i64 a.z] 23)).heap[wr.heap.size]? = some (.cells #[.int .i64 a.x, .int .i64 a.y, .int .i64 a.z] 23 (0, 0)) := heap_alloc_new _ _
        have hsx : Hid (wr.heap.size < (wr.alloc (.cells #[.int .i64 a.x, .int .i64 a.y, .int .i64 a.z] 23)).heap.size) := by show _ < _; simp
        have hbx : Hid (Below wr.heap.size wr (wr.alloc (.cells #[.int .i64 a.x, .int .i64 a.y, .int .i64 a.z] 23))) := (Below.refl _ _).alloc (Nat.le_refl _) _
        clear hA y5 y1 hbl hsm
        by_cases c2 : okN (addN s a) = true
        · obtain ⟨e1, e2⟩ := aR_ok hsk.out hoa.out c2
          rw [e1, e2] at hAd
          have hst2 : Hid (smL (l.take (k + 1)) nz = some (addN s a)) := by show _ = _; rw [hst.out, if_pos c2]
          have hsk2 : Hid (okN (addN s a) = true) := c2
          clear c2 e1 e2 hst
          generalize addN s a = t at *
          go_wp2_with (first
            | (refine load_wanted rfl 23 _ rfl _ rfl _ _ _ _ p5 Try.underlying23 rfl (need_info _ rfl) ?_)
            | (refine load_wanted rfl 23 _ rfl _ rfl _ _ _ _ pa Try.underlying23 rfl (need_info _ rfl) ?_)
            | (go_at_call 5; refine (hAd _).mono ?_; rintro e w5 ⟨rfl, hb5⟩; clear hAd p5 pa; have hb5' : Below wr.heap.size wr w5 := hbx.out.trans (hb5.mono (Nat.le_of_lt hsx.out)); have q5 : NBox w5 g5 s := y5r.out.below hb5' y5r.out.lt; have q1 : NBox w5 w.heap.size nz := y1r.out.below hb5' y1r.out.lt; have q5a : (w5.alloc (.cells #[.int .i64 t.x, .int .i64 t.y, .int .i64 t.z] 23)).heap[g5]? = some (.cells #[.int .i64 s.x, .int .i64 s.y, .int .i64 s.z] 23 (0, 0)) := (Below.heap_alloc _ _ _ q5.lt).trans q5; have hB5 : Below w.heap.size w w5 := hBr.out.trans (hb5'.mono hBr.out.size))
            | (refine load_wanted rfl 23 _ rfl _ rfl _ _ _ _ (heap_alloc_new w5 _) Try.underlying23 rfl (need_info _ rfl) ?_)
            | (refine wpList_store_row rfl 23 _ _ rfl _ #[.int .i64 t.x, .int .i64 t.y, .int .i64 t.z] rfl rfl _ _ q5a (need_info _ rfl) rfl (need_one _ _ _) ?_)
            | go_in)
          refine ⟨⟨k + 1, t, ?_, hk, hst2, hsk2, setRow_heap _ g5 _ _ _ _ q5a, ?_, below_row (hB5.alloc hB5.size _) (Nat.le_of_lt hg5.out)⟩, ?_⟩
          · first | exact int_succ k | exact int_wsuccB hk2.out
          · show _ = _
            rw [setRow_other _ g5 w.heap.size _ (by have := hg5.out; omega)]
            exact (Below.heap_alloc _ _ _ q1.lt).trans q1
          · first | exact meas_1 hk | exact meas_wB hk hk2.out
        · have c2' : okN (addN s a) = false := by simpa using c2
          obtain ⟨e1, e2⟩ := aR_no hsk.out hoa.out c2'
          rw [e1, e2] at hAd
          have hu : Hid (uR l = nz ∧ uE l = 2) := by
            have h7 : smL l nz = none := smL_no (j := k + 1) (by rw [hst.out, if_neg c2])
            show _ ∧ _
            unfold uR uE
            rw [hcH.out, h7]
            exact ⟨rfl, rfl⟩
          clear c2 c2' e1 e2 hst
          go_wp2_with (first
            | (refine load_wanted rfl 23 _ rfl _ rfl _ _ _ _ p5 Try.underlying23 rfl (need_info _ rfl) ?_)
            | (refine load_wanted rfl 23 _ rfl _ rfl _ _ _ _ pa Try.underlying23 rfl (need_info _ rfl) ?_)
            | (go_at_call 5; refine (hAd _).mono ?_; rintro e w5 ⟨rfl, hb5⟩; clear hAd p5 pa; have hb5' : Below wr.heap.size wr w5 := hbx.out.trans (hb5.mono (Nat.le_of_lt hsx.out)); have q1 : NBox w5 w.heap.size nz := y1r.out.below hb5' y1r.out.lt; have q1a : (w5.alloc (.cells #[.int .i64 nz.x, .int .i64 nz.y, .int .i64 nz.z] 23)).heap[w.heap.size]? = some (.cells #[.int .i64 nz.x, .int .i64 nz.y, .int .i64 nz.z] 23 (0, 0)) := (Below.heap_alloc _ _ _ q1.lt).trans q1; have hB5 : Below w.heap.size w w5 := hBr.out.trans (hb5'.mono hBr.out.size))
            | (refine wpList_store_row rfl 23 _ _ rfl _ #[.int .i64 0, .int .i64 0, .int .i64 0] rfl rfl _ _ q1a (need_info _ rfl) rfl (need_one _ _ _) ?_)
            | go_in)
          refine bodyPost_ret (results_needB Try.results8 rfl (setRow_heap _ w.heap.size _ _ _ _ q1a) rfl rfl) rfl ⟨by rw [hu.out.1, hu.out.2]; rfl, below_row (hB5.alloc hB5.size _) (Nat.le_refl _)⟩
      · have hki : ¬ (k : Int) < (n : Int) := by omega
        have e : k = n := by omega
        have hu : Hid (uR l = s ∧ uE l = 0) := by
          have h7 := hsm.out
          rw [e, ← hnH.out, List.take_length] at h7
          show _ ∧ _
          unfold uR uE
          rw [hcH.out, h7]
          exact ⟨rfl, rfl⟩
        clear hsm hsk e
        have y5q : wr.heap[g5]? = some (.cells #[.int .i64 s.x, .int .i64 s.y, .int .i64 s.z] 23 (0, 0)) := y5
        have y1q : wr.heap[w.heap.size]? = some (.cells #[.int .i64 nz.x, .int .i64 nz.y, .int .i64 nz.z] 23 (0, 0)) := y1
        clear hbl y5 y1
        go_wp2_with (first
          | (refine load_wanted rfl 23 _ rfl _ rfl _ _ _ _ y5q Try.underlying23 rfl (need_info _ rfl) ?_)
          | (refine wpList_store_row rfl 23 _ _ rfl _ #[.int .i64 s.x, .int .i64 s.y, .int .i64 s.z] rfl rfl _ _ y1q (need_info _ rfl) rfl (need_one _ _ _) ?_)
          | go_in)
        refine bodyPost_ret (results_needB Try.results8 rfl (setRow_heap _ w.heap.size _ _ _ _ y1q) rfl rfl) rfl ⟨by rw [hu.out.1, hu.out.2]; rfl, below_row hBr.out (Nat.le_refl _)⟩
  · have c' : okL l = false := by simpa using c
    rw [c', show ce false = 4 from rfl] at hck
    have hu : Hid (uR l = nz ∧ uE l = 4) := by
      show _ ∧ _
      unfold uR uE
      rw [c']
      exact ⟨rfl, rfl⟩
    clear c c'
    go_enter Try.func8, Try.ntmps8
    go_wp2_with (first
      | (go_at_call 14; refine hck.mono ?_; rintro e w3 ⟨rfl, hb3⟩; have g1 : NBox w3 w.heap.size nz := (hb3.block w.heap.size h1.lt).trans h1; have hB3 : Below w.heap.size w w3 := hBH.out.trans (hb3.mono hs0); clear hck)
      | (refine wpList_store_row rfl 23 _ _ rfl _ #[.int .i64 0, .int .i64 0, .int .i64 0] rfl rfl _ _ g1 (need_info _ rfl) rfl (need_one _ _ _) ?_)
      | go_in)
    refine bodyPost_ret (results_needB Try.results8 rfl (setRow_heap _ w.heap.size _ _ _ _ g1) rfl rfl) rfl ⟨by rw [hu.out.1, hu.out.2]; rfl, below_row hB3 (Nat.le_refl _)⟩
end Go.Proofs.Ytlbnoggnnibmjaa
