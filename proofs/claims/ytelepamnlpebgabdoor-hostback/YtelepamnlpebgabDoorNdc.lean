/- Package need, walked: Fits, Add, Sub. -/
import Derived.Test.YtelepamnlpebgabDoorNdw
namespace Go.Proofs.YtelepamnlpebgabDoor
open Go.RowKit Ndm
set_option linter.unusedSectionVars false
set_option linter.unusedVariables false

/-- Two boxes, and what is checked. -/
theorem check_two (w2 : World) (a b : N3) (z : Nat) (hz : w2.heap.size = z) : Calls Tryd.prog 54 #[.slice (some ⟨z, 0, none⟩) 2 2] (w2.alloc (.cells #[.int .i64 a.x, .int .i64 a.y, .int .i64 a.z, .int .i64 b.x, .int .i64 b.y, .int .i64 b.z] 27)) fun e w' => e = .returned (.int .i64 (ce (okN a && okN b))) ∧ Below w2.heap.size w2 w' := by
  subst hz
  have h := check_any (n := 2) (cap := 2) rfl (nds_two w2 a b) (by omega)
  rw [okL_two] at h
  exact h.mono fun e w' ⟨h1, h2⟩ => ⟨h1, ((Below.refl _ _).alloc (Nat.le_refl _) _).trans (h2.mono (by simp))⟩
theorem check_one (w2 : World) (a : N3) (z : Nat) (hz : w2.heap.size = z) : Calls Tryd.prog 54 #[.slice (some ⟨z, 0, none⟩) 1 1] (w2.alloc (.cells #[.int .i64 a.x, .int .i64 a.y, .int .i64 a.z] 27)) fun e w' => e = .returned (.int .i64 (ce (okN a))) ∧ Below w2.heap.size w2 w' := by
  subst hz
  have h := check_any (n := 1) (cap := 1) rfl (nds_one w2 a) (by omega)
  rw [okL_one] at h
  exact h.mono fun e w' ⟨h1, h2⟩ => ⟨h1, ((Below.refl _ _).alloc (Nat.le_refl _) _).trans (h2.mono (by simp))⟩
theorem two_boxes (w : World) (a b : N3) : NBox ((w.alloc (.cells #[.int .i64 a.x, .int .i64 a.y, .int .i64 a.z] 27)).alloc (.cells #[.int .i64 b.x, .int .i64 b.y, .int .i64 b.z] 27)) w.heap.size a ∧ NBox ((w.alloc (.cells #[.int .i64 a.x, .int .i64 a.y, .int .i64 a.z] 27)).alloc (.cells #[.int .i64 b.x, .int .i64 b.y, .int .i64 b.z] 27)) (w.heap.size + 1) b ∧ Below w.heap.size w ((w.alloc (.cells #[.int .i64 a.x, .int .i64 a.y, .int .i64 a.z] 27)).alloc (.cells #[.int .i64 b.x, .int .i64 b.y, .int .i64 b.z] 27)) ∧ ((w.alloc (.cells #[.int .i64 a.x, .int .i64 a.y, .int .i64 a.z] 27)).alloc (.cells #[.int .i64 b.x, .int .i64 b.y, .int .i64 b.z] 27)).heap.size = w.heap.size + 2 := by
  refine ⟨(Below.heap_alloc _ _ _ (by simp)).trans (heap_alloc_new _ _), ?_, ((Below.refl _ _).alloc (Nat.le_refl _) _).alloc (by simp) _, by simp⟩
  have h := heap_alloc_new (w.alloc (.cells #[.int .i64 a.x, .int .i64 a.y, .int .i64 a.z] 27)) (.cells #[.int .i64 b.x, .int .i64 b.y, .int .i64 b.z] 27)
  have e : (w.alloc (.cells #[.int .i64 a.x, .int .i64 a.y, .int .i64 a.z] 27)).heap.size = w.heap.size + 1 := by simp
  rw [e] at h
  exact h
theorem three_boxes (w : World) (a b c : N3) : NBox (((w.alloc (.cells #[.int .i64 a.x, .int .i64 a.y, .int .i64 a.z] 27)).alloc (.cells #[.int .i64 b.x, .int .i64 b.y, .int .i64 b.z] 27)).alloc (.cells #[.int .i64 c.x, .int .i64 c.y, .int .i64 c.z] 27)) w.heap.size a ∧ NBox (((w.alloc (.cells #[.int .i64 a.x, .int .i64 a.y, .int .i64 a.z] 27)).alloc (.cells #[.int .i64 b.x, .int .i64 b.y, .int .i64 b.z] 27)).alloc (.cells #[.int .i64 c.x, .int .i64 c.y, .int .i64 c.z] 27)) (w.heap.size + 1) b ∧ NBox (((w.alloc (.cells #[.int .i64 a.x, .int .i64 a.y, .int .i64 a.z] 27)).alloc (.cells #[.int .i64 b.x, .int .i64 b.y, .int .i64 b.z] 27)).alloc (.cells #[.int .i64 c.x, .int .i64 c.y, .int .i64 c.z] 27)) (w.heap.size + 2) c ∧ Below w.heap.size w (((w.alloc (.cells #[.int .i64 a.x, .int .i64 a.y, .int .i64 a.z] 27)).alloc (.cells #[.int .i64 b.x, .int .i64 b.y, .int .i64 b.z] 27)).alloc (.cells #[.int .i64 c.x, .int .i64 c.y, .int .i64 c.z] 27)) ∧ (((w.alloc (.cells #[.int .i64 a.x, .int .i64 a.y, .int .i64 a.z] 27)).alloc (.cells #[.int .i64 b.x, .int .i64 b.y, .int .i64 b.z] 27)).alloc (.cells #[.int .i64 c.x, .int .i64 c.y, .int .i64 c.z] 27)).heap.size = w.heap.size + 3 := by
  obtain ⟨h1, h2, h3, h4⟩ := two_boxes w a b
  refine ⟨(Below.heap_alloc _ _ _ h1.lt).trans h1, (Below.heap_alloc _ _ _ h2.lt).trans h2, ?_, h3.alloc (by simp; omega) _, by simp⟩
  have h := heap_alloc_new ((w.alloc (.cells #[.int .i64 a.x, .int .i64 a.y, .int .i64 a.z] 27)).alloc (.cells #[.int .i64 b.x, .int .i64 b.y, .int .i64 b.z] 27)) (.cells #[.int .i64 c.x, .int .i64 c.y, .int .i64 c.z] 27)
  rw [h4] at h
  exact h

theorem results_need {f : Func} {tmps : Array Value} {w : World} {g : Nat} {cs : Array Value} {v : Value} (hf : f.results = #[.cell 4 27, .tmp 5]) (hp : tmps.getD 4 undef = .pointer (some ⟨g, 0, none⟩)) (hg : w.heap[g]? = some (.cells cs 27 (0, 0))) (hcs : cs.size = 3) (h7 : tmps.getD 5 undef = v) : (results f tmps).run Tryd.prog w = .ok (.tuple #[.agg cs, v]) w := by
  have hp' : tmps[4]?.getD undef = .pointer (some ⟨g, 0, none⟩) := by simpa using hp
  have h7' : tmps[5]?.getD undef = v := by simpa using h7
  simp [results, hf, hp', h7', asAddr, run_loadVar_row w g _ 27 cs (0, 0) _ hg Tryd.underlying27 rfl (need_info cs hcs)]

def aR (a b : N3) : N3 := if okN a && okN b then (if okN (addN a b) then addN a b else nz) else nz
def aE (a b : N3) : Int := if okN a && okN b then (if okN (addN a b) then 0 else 2) else 4

set_option maxHeartbeats 1000000 in
set_option maxRecDepth 100000 in
theorem Add_any (a b : N3) (w : World) : Calls Tryd.prog 27 #[(.agg #[.int .i64 a.x, .int .i64 a.y, .int .i64 a.z]), (.agg #[.int .i64 b.x, .int .i64 b.y, .int .i64 b.z])] w fun e w' => e = .returned (.tuple #[.agg #[.int .i64 (aR a b).x, .int .i64 (aR a b).y, .int .i64 (aR a b).z], .int .i64 (aE a b)]) ∧ Below w.heap.size w w' := by
  obtain ⟨h1, h2, h3, hB, hs⟩ := three_boxes w a b nz
  have hck := check_two _ a b _ hs
  have hBH : Hid (Below w.heap.size w (((w.alloc (.cells #[.int .i64 a.x, .int .i64 a.y, .int .i64 a.z] 27)).alloc (.cells #[.int .i64 b.x, .int .i64 b.y, .int .i64 b.z] 27)).alloc (.cells #[.int .i64 nz.x, .int .i64 nz.y, .int .i64 nz.z] 27))) := hB
  have hsz := hB.size
  by_cases c : (okN a && okN b) = true
  · have hce : ce true = 0 := rfl
    rw [c, hce] at hck
    have hc2 := c
    rw [Bool.and_eq_true] at hc2
    obtain ⟨⟨⟨x1, x2⟩, ⟨x3, x4⟩, x5, x6⟩, ⟨y1, y2⟩, ⟨y3, y4⟩, y5, y6⟩ := And.intro (okN_iff.1 hc2.1) (okN_iff.1 hc2.2)
    have hck1 := fun w3 => check_one (World.alloc w3 (.cells #[.int .i64 (a.x + b.x), .int .i64 (a.y + b.y), .int .i64 (a.z + b.z)] 27)) (addN a b) (w3.heap.size + 1) (by simp)
    by_cases c2 : okN (addN a b) = true
    · have e1 : aR a b = addN a b := by unfold aR; rw [if_pos c, if_pos c2]
      have e2 : aE a b = 0 := by unfold aE; rw [if_pos c, if_pos c2]
      rw [c2, hce] at hck1
      rw [e1, e2]
      clear hB c hce hc2 c2 e1 e2
      go_enter Tryd.func27, Tryd.ntmps27
      go_wp2_with (first
        | (go_at_call 54; refine hck.mono ?_; rintro e w3 ⟨rfl, hb3⟩; have g1 : NBox w3 w.heap.size a := (hb3.block w.heap.size (Array.getElem?_eq_some_iff.1 h1).1).trans h1; have g2 : NBox w3 (w.heap.size + 1) b := (hb3.block (w.heap.size + 1) (Array.getElem?_eq_some_iff.1 h2).1).trans h2; have g3 : NBox w3 (w.heap.size + 2) nz := (hb3.block (w.heap.size + 2) (Array.getElem?_eq_some_iff.1 h3).1).trans h3; have hB3 : Below w.heap.size w w3 := hBH.out.trans (hb3.mono hBH.out.size); have a0 := g1.c0; have a1 := g1.c1; have a2 := g1.c2; have b0 := g2.c0; have b1 := g2.c1; have b2 := g2.c2; clear hck)
        | (refine load_wanted rfl 27 _ rfl _ rfl _ _ _ _ (heap_alloc_new w3 _) Tryd.underlying27 rfl (need_info _ rfl) ?_)
        | (go_at_call 54; refine (hck1 w3).mono ?_; rintro e w4 ⟨rfl, hb4⟩; clear hck1; have hb34 : Below w3.heap.size w3 w4 := ((Below.refl _ _).alloc (Nat.le_refl _) _).trans (hb4.mono (by simp)); have p4 : NBox w4 w3.heap.size (addN a b) := (hb4.block w3.heap.size (by simp)).trans (heap_alloc_new w3 _); have g4 : NBox w4 (w.heap.size + 2) nz := (hb34.block (w.heap.size + 2) g3.lt).trans g3; have hB4 : Below w.heap.size w w4 := hB3.trans (hb34.mono hB3.size); clear g1 g2 g3 a0 a1 a2 b0 b1 b2)
        | (refine load_wanted rfl 27 _ rfl _ rfl _ _ _ _ p4 Tryd.underlying27 rfl (need_info _ rfl) ?_)
        | (refine wpList_store_row rfl 27 _ _ rfl _ #[.int .i64 (a.x + b.x), .int .i64 (a.y + b.y), .int .i64 (a.z + b.z)] rfl rfl _ _ g4 (need_info _ rfl) rfl (need_one _ _ _) ?_)
        | go_in)
      refine bodyPost_ret (results_need Tryd.results27 rfl (setRow_heap w4 (w.heap.size + 2) _ _ _ _ g4) rfl rfl) rfl ⟨rfl, below_row hB4 (by omega)⟩
    · have c2' : okN (addN a b) = false := by simpa using c2
      have hcf : ce false = 4 := rfl
      have e1 : aR a b = nz := by unfold aR; rw [if_pos c, if_neg (by rw [c2']; exact Bool.false_ne_true)]
      have e2 : aE a b = 2 := by unfold aE; rw [if_pos c, if_neg (by rw [c2']; exact Bool.false_ne_true)]
      rw [c2', hcf] at hck1
      rw [e1, e2]
      clear hB c hce hc2 c2 c2' hcf e1 e2
      go_enter Tryd.func27, Tryd.ntmps27
      go_wp2_with (first
        | (go_at_call 54; refine hck.mono ?_; rintro e w3 ⟨rfl, hb3⟩; have g1 : NBox w3 w.heap.size a := (hb3.block w.heap.size (Array.getElem?_eq_some_iff.1 h1).1).trans h1; have g2 : NBox w3 (w.heap.size + 1) b := (hb3.block (w.heap.size + 1) (Array.getElem?_eq_some_iff.1 h2).1).trans h2; have g3 : NBox w3 (w.heap.size + 2) nz := (hb3.block (w.heap.size + 2) (Array.getElem?_eq_some_iff.1 h3).1).trans h3; have hB3 : Below w.heap.size w w3 := hBH.out.trans (hb3.mono hBH.out.size); have a0 := g1.c0; have a1 := g1.c1; have a2 := g1.c2; have b0 := g2.c0; have b1 := g2.c1; have b2 := g2.c2; clear hck)
        | (refine load_wanted rfl 27 _ rfl _ rfl _ _ _ _ (heap_alloc_new w3 _) Tryd.underlying27 rfl (need_info _ rfl) ?_)
        | (go_at_call 54; refine (hck1 w3).mono ?_; rintro e w4 ⟨rfl, hb4⟩; clear hck1; have hb34 : Below w3.heap.size w3 w4 := ((Below.refl _ _).alloc (Nat.le_refl _) _).trans (hb4.mono (by simp)); have g4 : NBox w4 (w.heap.size + 2) nz := (hb34.block (w.heap.size + 2) g3.lt).trans g3; have hB4 : Below w.heap.size w w4 := hB3.trans (hb34.mono hB3.size); clear g1 g2 g3 a0 a1 a2 b0 b1 b2)
        | (refine wpList_store_row rfl 27 _ _ rfl _ #[.int .i64 0, .int .i64 0, .int .i64 0] rfl rfl _ _ g4 (need_info _ rfl) rfl (need_one _ _ _) ?_)
        | go_in)
      refine bodyPost_ret (results_need Tryd.results27 rfl (setRow_heap w4 (w.heap.size + 2) _ _ _ _ g4) rfl rfl) rfl ⟨rfl, below_row hB4 (by omega)⟩
  · have c' : (okN a && okN b) = false := by simpa using c
    have hce : ce false = 4 := rfl
    rw [c', hce] at hck
    have e1 : aR a b = nz := by unfold aR; rw [if_neg (by rw [c']; exact Bool.false_ne_true)]
    have e2 : aE a b = 4 := by unfold aE; rw [if_neg (by rw [c']; exact Bool.false_ne_true)]
    rw [e1, e2]
    clear hB c c' hce e1 e2
    go_enter Tryd.func27, Tryd.ntmps27
    go_wp2_with (first
      | (go_at_call 54; refine hck.mono ?_; rintro e w3 ⟨rfl, hb3⟩; have g1 : NBox w3 w.heap.size a := (hb3.block w.heap.size (Array.getElem?_eq_some_iff.1 h1).1).trans h1; have g2 : NBox w3 (w.heap.size + 1) b := (hb3.block (w.heap.size + 1) (Array.getElem?_eq_some_iff.1 h2).1).trans h2; have g3 : NBox w3 (w.heap.size + 2) nz := (hb3.block (w.heap.size + 2) (Array.getElem?_eq_some_iff.1 h3).1).trans h3; have hB3 : Below w.heap.size w w3 := hBH.out.trans (hb3.mono hBH.out.size); have a0 := g1.c0; have a1 := g1.c1; have a2 := g1.c2; have b0 := g2.c0; have b1 := g2.c1; have b2 := g2.c2; clear hck)
      | (refine wpList_store_row rfl 27 _ _ rfl _ #[.int .i64 0, .int .i64 0, .int .i64 0] rfl rfl _ _ g3 (need_info _ rfl) rfl (need_one _ _ _) ?_)
      | go_in)
    refine bodyPost_ret (results_need Tryd.results27 rfl (setRow_heap w3 (w.heap.size + 2) _ _ _ _ g3) rfl rfl) rfl ⟨rfl, below_row hB3 (by omega)⟩

def sR (a b : N3) : N3 := if okN a && okN b then (if ftN b a then subN a b else nz) else nz
def sE (a b : N3) : Int := if okN a && okN b then (if ftN b a then 0 else 10) else 4

set_option maxHeartbeats 1000000 in
set_option maxRecDepth 100000 in
theorem Sub_any (a b : N3) (w : World) : Calls Tryd.prog 39 #[(.agg #[.int .i64 a.x, .int .i64 a.y, .int .i64 a.z]), (.agg #[.int .i64 b.x, .int .i64 b.y, .int .i64 b.z])] w fun e w' => e = .returned (.tuple #[.agg #[.int .i64 (sR a b).x, .int .i64 (sR a b).y, .int .i64 (sR a b).z], .int .i64 (sE a b)]) ∧ Below w.heap.size w w' := by
  obtain ⟨h1, h2, h3, hB, hs⟩ := three_boxes w a b nz
  have hck := check_two _ a b _ hs
  have hBH : Hid (Below w.heap.size w (((w.alloc (.cells #[.int .i64 a.x, .int .i64 a.y, .int .i64 a.z] 27)).alloc (.cells #[.int .i64 b.x, .int .i64 b.y, .int .i64 b.z] 27)).alloc (.cells #[.int .i64 nz.x, .int .i64 nz.y, .int .i64 nz.z] 27))) := hB
  have hsz := hB.size
  by_cases c : (okN a && okN b) = true
  · have hce : ce true = 0 := rfl
    rw [c, hce] at hck
    have hc2 := c
    rw [Bool.and_eq_true] at hc2
    obtain ⟨⟨⟨x1, x2⟩, ⟨x3, x4⟩, x5, x6⟩, ⟨y1, y2⟩, ⟨y3, y4⟩, y5, y6⟩ := And.intro (okN_iff.1 hc2.1) (okN_iff.1 hc2.2)
    have hf := fun w1 => fits_any b a w1
    by_cases c2 : ftN b a = true
    · have e1 : sR a b = subN a b := by unfold sR; rw [if_pos c, if_pos c2]
      have e2 : sE a b = 0 := by unfold sE; rw [if_pos c, if_pos c2]
      rw [c2] at hf
      rw [e1, e2]
      clear hB c hce hc2 c2 e1 e2
      go_enter Tryd.func39, Tryd.ntmps39
      go_wp2_with (first
        | (go_at_call 54; refine hck.mono ?_; rintro e w3 ⟨rfl, hb3⟩; have g1 : NBox w3 w.heap.size a := (hb3.block w.heap.size (Array.getElem?_eq_some_iff.1 h1).1).trans h1; have g2 : NBox w3 (w.heap.size + 1) b := (hb3.block (w.heap.size + 1) (Array.getElem?_eq_some_iff.1 h2).1).trans h2; have g3 : NBox w3 (w.heap.size + 2) nz := (hb3.block (w.heap.size + 2) (Array.getElem?_eq_some_iff.1 h3).1).trans h3; have hB3 : Below w.heap.size w w3 := hBH.out.trans (hb3.mono hBH.out.size); have a0 := g1.c0; have a1 := g1.c1; have a2 := g1.c2; have b0 := g2.c0; have b1 := g2.c1; have b2 := g2.c2; clear hck)
        | (refine load_wanted rfl 27 _ rfl _ rfl _ _ _ _ g1 Tryd.underlying27 rfl (need_info _ rfl) ?_)
        | (refine load_wanted rfl 27 _ rfl _ rfl _ _ _ _ g2 Tryd.underlying27 rfl (need_info _ rfl) ?_)
        | (go_at_call 64; refine (hf w3).mono ?_; rintro e w4 ⟨rfl, hb4⟩; clear hf; have k1 := g1.below hb4 g1.lt; have k2 := g2.below hb4 g2.lt; have g4 : NBox w4 (w.heap.size + 2) nz := g3.below hb4 g3.lt; have hB4 : Below w.heap.size w w4 := hB3.trans (hb4.mono hB3.size); clear g1 g2 g3 a0 a1 a2 b0 b1 b2; have a0 := k1.c0; have a1 := k1.c1; have a2 := k1.c2; have b0 := k2.c0; have b1 := k2.c1; have b2 := k2.c2)
        | (refine wpList_store_row rfl 27 _ _ rfl _ #[.int .i64 (a.x - b.x), .int .i64 (a.y - b.y), .int .i64 (a.z - b.z)] rfl rfl _ _ g4 (need_info _ rfl) rfl (need_one _ _ _) ?_)
        | go_in)
      refine bodyPost_ret (results_need Tryd.results39 rfl (setRow_heap w4 (w.heap.size + 2) _ _ _ _ g4) rfl rfl) rfl ⟨rfl, below_row hB4 (by omega)⟩
    · have c2' : ftN b a = false := by simpa using c2
      have e1 : sR a b = nz := by unfold sR; rw [if_pos c, if_neg (by rw [c2']; exact Bool.false_ne_true)]
      have e2 : sE a b = 10 := by unfold sE; rw [if_pos c, if_neg (by rw [c2']; exact Bool.false_ne_true)]
      rw [c2'] at hf
      rw [e1, e2]
      clear hB c hce hc2 c2 c2' e1 e2
      go_enter Tryd.func39, Tryd.ntmps39
      go_wp2_with (first
        | (go_at_call 54; refine hck.mono ?_; rintro e w3 ⟨rfl, hb3⟩; have g1 : NBox w3 w.heap.size a := (hb3.block w.heap.size (Array.getElem?_eq_some_iff.1 h1).1).trans h1; have g2 : NBox w3 (w.heap.size + 1) b := (hb3.block (w.heap.size + 1) (Array.getElem?_eq_some_iff.1 h2).1).trans h2; have g3 : NBox w3 (w.heap.size + 2) nz := (hb3.block (w.heap.size + 2) (Array.getElem?_eq_some_iff.1 h3).1).trans h3; have hB3 : Below w.heap.size w w3 := hBH.out.trans (hb3.mono hBH.out.size); have a0 := g1.c0; have a1 := g1.c1; have a2 := g1.c2; have b0 := g2.c0; have b1 := g2.c1; have b2 := g2.c2; clear hck)
        | (refine load_wanted rfl 27 _ rfl _ rfl _ _ _ _ g1 Tryd.underlying27 rfl (need_info _ rfl) ?_)
        | (refine load_wanted rfl 27 _ rfl _ rfl _ _ _ _ g2 Tryd.underlying27 rfl (need_info _ rfl) ?_)
        | (go_at_call 64; refine (hf w3).mono ?_; rintro e w4 ⟨rfl, hb4⟩; clear hf; have g4 : NBox w4 (w.heap.size + 2) nz := g3.below hb4 g3.lt; have hB4 : Below w.heap.size w w4 := hB3.trans (hb4.mono hB3.size); clear g1 g2 g3 a0 a1 a2 b0 b1 b2)
        | (refine wpList_store_row rfl 27 _ _ rfl _ #[.int .i64 0, .int .i64 0, .int .i64 0] rfl rfl _ _ g4 (need_info _ rfl) rfl (need_one _ _ _) ?_)
        | go_in)
      refine bodyPost_ret (results_need Tryd.results39 rfl (setRow_heap w4 (w.heap.size + 2) _ _ _ _ g4) rfl rfl) rfl ⟨rfl, below_row hB4 (by omega)⟩
  · have c' : (okN a && okN b) = false := by simpa using c
    have hce : ce false = 4 := rfl
    rw [c', hce] at hck
    have e1 : sR a b = nz := by unfold sR; rw [if_neg (by rw [c']; exact Bool.false_ne_true)]
    have e2 : sE a b = 4 := by unfold sE; rw [if_neg (by rw [c']; exact Bool.false_ne_true)]
    rw [e1, e2]
    clear hB c c' hce e1 e2
    go_enter Tryd.func39, Tryd.ntmps39
    go_wp2_with (first
      | (go_at_call 54; refine hck.mono ?_; rintro e w3 ⟨rfl, hb3⟩; have g1 : NBox w3 w.heap.size a := (hb3.block w.heap.size (Array.getElem?_eq_some_iff.1 h1).1).trans h1; have g2 : NBox w3 (w.heap.size + 1) b := (hb3.block (w.heap.size + 1) (Array.getElem?_eq_some_iff.1 h2).1).trans h2; have g3 : NBox w3 (w.heap.size + 2) nz := (hb3.block (w.heap.size + 2) (Array.getElem?_eq_some_iff.1 h3).1).trans h3; have hB3 : Below w.heap.size w w3 := hBH.out.trans (hb3.mono hBH.out.size); have a0 := g1.c0; have a1 := g1.c1; have a2 := g1.c2; have b0 := g2.c0; have b1 := g2.c1; have b2 := g2.c2; clear hck)
      | (refine wpList_store_row rfl 27 _ _ rfl _ #[.int .i64 0, .int .i64 0, .int .i64 0] rfl rfl _ _ g3 (need_info _ rfl) rfl (need_one _ _ _) ?_)
      | go_in)
    refine bodyPost_ret (results_need Tryd.results39 rfl (setRow_heap w3 (w.heap.size + 2) _ _ _ _ g3) rfl rfl) rfl ⟨rfl, below_row hB3 (by omega)⟩
end Go.Proofs.YtelepamnlpebgabDoor
