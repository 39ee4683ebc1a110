/- Package need, walked: Read. -/
import Derived.Test.YtmhidmocmolgfaaDoorNrw
namespace Go.Proofs.YtmhidmocmolgfaaDoor
open Go.RowKit Ndm Txt
set_option linter.unusedSectionVars false
set_option linter.unusedVariables false

theorem read_any (s : ByteArray) (w : World) (hM : TabM w) (hs : s.size ≤ maxLen) (R : Option N3) (HR : rdN s.data.toList = R) :
    Calls Tryd.prog 38 #[.string s] w fun e w' => e = .returned (.tuple #[.agg #[.int .i64 (oN R).x, .int .i64 (oN R).y, .int .i64 (oN R).z], .bool R.isSome]) ∧ Below w.heap.size w w' := by
  by_cases hd : s.data.toList = [45]
  · have e : s = ⟨#[45]⟩ := by
      cases s with
      | mk d => cases d with
        | mk l => cases hd; rfl
    subst e
    have hR : R = some nz := by rw [← HR]; rfl
    subst hR
    exact read_dash w
  · have hR : rdI 4 0 s.data.toList nz = R := by rw [← HR]; unfold rdN; rw [if_neg hd]
    exact read_loop s w hM hs hd R hR

def rE (o : Option N3) : Int := match o with
  | none => 3
  | some a => ce (okN a)
def rV (o : Option N3) : N3 := match o with
  | none => nz
  | some a => if okN a then a else nz
theorem results_Read {tmps : Array Value} {w : World} {g : Nat} {cs : Array Value} {v : Value} (hp : tmps.getD 2 undef = .pointer (some ⟨g, 0, none⟩)) (hg : w.heap[g]? = some (.cells cs 23 (0, 0))) (hcs : cs.size = 3) (h7 : tmps.getD 3 undef = v) : (results Tryd.f10 tmps).run Tryd.prog w = .ok (.tuple #[.agg cs, v]) w := by
  have hp' : tmps[2]?.getD undef = .pointer (some ⟨g, 0, none⟩) := by simpa using hp
  have h7' : tmps[3]?.getD undef = v := by simpa using h7
  simp [results, Tryd.results10, hp', h7', asAddr, run_loadVar_row w g _ 23 cs (0, 0) _ hg Tryd.underlying23 rfl (need_info cs hcs)]

theorem two_rows (w3 : World) (g : Nat) (b : N3) (hg : w3.heap[g]? = some (.cells #[.int .i64 0, .int .i64 0, .int .i64 0] 23 (0, 0))) :
    (w3.alloc (.cells #[.int .i64 0, .int .i64 0, .int .i64 0] 23)).heap[w3.heap.size]? = some (.cells #[.int .i64 0, .int .i64 0, .int .i64 0] 23 (0, 0)) ∧
    ((w3.alloc (.cells #[.int .i64 0, .int .i64 0, .int .i64 0] 23)).setRow w3.heap.size #[.int .i64 b.x, .int .i64 b.y, .int .i64 b.z]).heap[g]? = some (.cells #[.int .i64 0, .int .i64 0, .int .i64 0] 23 (0, 0)) ∧
    ((w3.alloc (.cells #[.int .i64 0, .int .i64 0, .int .i64 0] 23)).setRow w3.heap.size #[.int .i64 b.x, .int .i64 b.y, .int .i64 b.z]).heap[w3.heap.size]? = some (.cells #[.int .i64 b.x, .int .i64 b.y, .int .i64 b.z] 23 (0, 0)) ∧
    Below w3.heap.size w3 ((w3.alloc (.cells #[.int .i64 0, .int .i64 0, .int .i64 0] 23)).setRow w3.heap.size #[.int .i64 b.x, .int .i64 b.y, .int .i64 b.z]) := by
  have hlt : g < w3.heap.size := (Array.getElem?_eq_some_iff.1 hg).1
  have h := heap_alloc_new w3 (.cells #[.int .i64 0, .int .i64 0, .int .i64 0] 23)
  refine ⟨h, ?_, setRow_heap _ _ _ _ _ _ h, below_row ((Below.refl _ _).alloc (Nat.le_refl _) _) (Nat.le_refl _)⟩
  rw [setRow_other _ _ _ _ (by omega)]
  exact (Below.heap_alloc _ _ _ hlt).trans hg

set_option maxHeartbeats 2000000 in
set_option maxRecDepth 100000 in
theorem Read_none (s : ByteArray) (w : World) (hM : TabM w) (hs : s.size ≤ maxLen) (HR : rdN s.data.toList = none) :
    Calls Tryd.prog 10 #[.string s] w fun e w' => e = .returned (.tuple #[.agg #[.int .i64 0, .int .i64 0, .int .i64 0], .int .i64 3]) ∧ Below w.heap.size w w' := by
  have h1 : (w.alloc (.cells #[.int .i64 0, .int .i64 0, .int .i64 0] 23)).heap[w.heap.size]? = some (.cells #[.int .i64 0, .int .i64 0, .int .i64 0] 23 (0, 0)) := heap_alloc_new _ _
  have hB : Below w.heap.size w (w.alloc (.cells #[.int .i64 0, .int .i64 0, .int .i64 0] 23)) := (Below.refl _ _).alloc (Nat.le_refl _) _
  have hrd := read_any s (w.alloc (.cells #[.int .i64 0, .int .i64 0, .int .i64 0] 23)) (hM.below hB (Nat.le_refl _)) hs none HR
  replace hrd : Calls Tryd.prog 38 #[.string s] (w.alloc (.cells #[.int .i64 0, .int .i64 0, .int .i64 0] 23)) fun e w' => e = .returned (.tuple #[(.agg #[.int .i64 0, .int .i64 0, .int .i64 0]), .bool false]) ∧ Below (w.alloc (.cells #[.int .i64 0, .int .i64 0, .int .i64 0] 23)).heap.size (w.alloc (.cells #[.int .i64 0, .int .i64 0, .int .i64 0] 23)) w' := hrd
  have hBH : Hid (Below w.heap.size w (w.alloc (.cells #[.int .i64 0, .int .i64 0, .int .i64 0] 23))) := hB
  clear hM hs HR hB
  go_enter Tryd.func10, Tryd.ntmps10
  go_wp2_with (first
    | (go_at_call 38; refine hrd.mono ?_; rintro e w3 ⟨rfl, hb3⟩; have g0 := (hb3.block w.heap.size (by simp)).trans h1; obtain ⟨hx, k0, k1, hb4⟩ := two_rows w3 w.heap.size nz g0; have hB5 : Hid (Below w.heap.size w _) := (hBH.out.trans (hb3.mono hBH.out.size)).trans (hb4.mono (by have := hb3.size; simp at this; omega)); clear hrd)
    | (refine wpList_store_row rfl 23 _ _ rfl _ #[.int .i64 0, .int .i64 0, .int .i64 0] rfl rfl _ _ hx (need_info _ rfl) rfl (need_one _ _ _) ?_)
    | (refine wpList_store_row rfl 23 _ _ rfl _ #[.int .i64 0, .int .i64 0, .int .i64 0] rfl rfl _ _ k0 (need_info _ rfl) rfl (need_one _ _ _) ?_)
    | go_in)
  refine bodyPost_ret (results_Read rfl (setRow_heap _ w.heap.size _ _ _ _ k0) rfl rfl) rfl ⟨rfl, below_row hB5.out (by omega)⟩

set_option maxHeartbeats 2000000 in
set_option maxRecDepth 100000 in
theorem Read_some (s : ByteArray) (w : World) (hM : TabM w) (hs : s.size ≤ maxLen) (a : N3) (HR : rdN s.data.toList = some a) (v : Bool) (hv : okN a = v) :
    Calls Tryd.prog 10 #[.string s] w fun e w' => e = .returned (.tuple #[.agg #[.int .i64 (if v then a else nz).x, .int .i64 (if v then a else nz).y, .int .i64 (if v then a else nz).z], .int .i64 (ce v)]) ∧ Below w.heap.size w w' := by
  have h1 : (w.alloc (.cells #[.int .i64 0, .int .i64 0, .int .i64 0] 23)).heap[w.heap.size]? = some (.cells #[.int .i64 0, .int .i64 0, .int .i64 0] 23 (0, 0)) := heap_alloc_new _ _
  have hB : Below w.heap.size w (w.alloc (.cells #[.int .i64 0, .int .i64 0, .int .i64 0] 23)) := (Below.refl _ _).alloc (Nat.le_refl _) _
  have hrd := read_any s (w.alloc (.cells #[.int .i64 0, .int .i64 0, .int .i64 0] 23)) (hM.below hB (Nat.le_refl _)) hs (some a) HR
  replace hrd : Calls Tryd.prog 38 #[.string s] (w.alloc (.cells #[.int .i64 0, .int .i64 0, .int .i64 0] 23)) fun e w' => e = .returned (.tuple #[(.agg #[.int .i64 a.x, .int .i64 a.y, .int .i64 a.z]), .bool true]) ∧ Below (w.alloc (.cells #[.int .i64 0, .int .i64 0, .int .i64 0] 23)).heap.size (w.alloc (.cells #[.int .i64 0, .int .i64 0, .int .i64 0] 23)) w' := hrd
  have hBH : Hid (Below w.heap.size w (w.alloc (.cells #[.int .i64 0, .int .i64 0, .int .i64 0] 23))) := hB
  have hck := fun w2 z hz => check_one w2 a z hz
  rw [hv] at hck
  clear hM hs HR hB hv
  cases v with
  | false =>
    replace hck : ∀ (w2 : World) (z : Nat), w2.heap.size = z → Calls Tryd.prog 34 #[.slice (some ⟨z, 0, none⟩) 1 1] (w2.alloc (.cells #[.int .i64 a.x, .int .i64 a.y, .int .i64 a.z] 23)) fun e w' => e = .returned (.int .i64 4) ∧ Below w2.heap.size w2 w' := hck
    go_enter Tryd.func10, Tryd.ntmps10
    go_wp2_with (first
      | (go_at_call 38; refine hrd.mono ?_; rintro e w3 ⟨rfl, hb3⟩; have g0 := (hb3.block w.heap.size (by simp)).trans h1; obtain ⟨hx, k0, k1, hb4⟩ := two_rows w3 w.heap.size a g0; have hB5 : Hid (Below w.heap.size w _) := (hBH.out.trans (hb3.mono hBH.out.size)).trans (hb4.mono (by have := hb3.size; simp at this; omega)); replace hck := hck ((w3.alloc (.cells #[.int .i64 0, .int .i64 0, .int .i64 0] 23)).setRow w3.heap.size #[.int .i64 a.x, .int .i64 a.y, .int .i64 a.z]) (w3.heap.size + 1) (by simp [World.setRow]); clear hrd)
      | (refine wpList_store_row rfl 23 _ _ rfl _ #[.int .i64 a.x, .int .i64 a.y, .int .i64 a.z] rfl rfl _ _ hx (need_info _ rfl) rfl (need_one _ _ _) ?_)
      | (refine load_wanted rfl 23 _ rfl _ rfl _ _ _ _ k1 Tryd.underlying23 rfl (need_info _ rfl) ?_)
      | (go_at_call 34; refine hck.mono ?_; rintro e w6 ⟨rfl, hb6⟩; have q0 := (hb6.block w.heap.size (Array.getElem?_eq_some_iff.1 k0).1).trans k0; have q1 := (hb6.block w3.heap.size (Array.getElem?_eq_some_iff.1 k1).1).trans k1; have hB6 : Hid (Below w.heap.size w w6) := hB5.out.trans (hb6.mono hB5.out.size); clear hck)
      | (refine wpList_store_row rfl 23 _ _ rfl _ #[.int .i64 0, .int .i64 0, .int .i64 0] rfl rfl _ _ q0 (need_info _ rfl) rfl (need_one _ _ _) ?_)
      | go_in)
    refine bodyPost_ret (results_Read rfl (setRow_heap _ w.heap.size _ _ _ _ q0) rfl rfl) rfl ⟨rfl, below_row hB6.out (by omega)⟩
  | true =>
    replace hck : ∀ (w2 : World) (z : Nat), w2.heap.size = z → Calls Tryd.prog 34 #[.slice (some ⟨z, 0, none⟩) 1 1] (w2.alloc (.cells #[.int .i64 a.x, .int .i64 a.y, .int .i64 a.z] 23)) fun e w' => e = .returned (.int .i64 0) ∧ Below w2.heap.size w2 w' := hck
    go_enter Tryd.func10, Tryd.ntmps10
    go_wp2_with (first
      | (go_at_call 38; refine hrd.mono ?_; rintro e w3 ⟨rfl, hb3⟩; have g0 := (hb3.block w.heap.size (by simp)).trans h1; obtain ⟨hx, k0, k1, hb4⟩ := two_rows w3 w.heap.size a g0; have hB5 : Hid (Below w.heap.size w _) := (hBH.out.trans (hb3.mono hBH.out.size)).trans (hb4.mono (by have := hb3.size; simp at this; omega)); replace hck := hck ((w3.alloc (.cells #[.int .i64 0, .int .i64 0, .int .i64 0] 23)).setRow w3.heap.size #[.int .i64 a.x, .int .i64 a.y, .int .i64 a.z]) (w3.heap.size + 1) (by simp [World.setRow]); clear hrd)
      | (refine wpList_store_row rfl 23 _ _ rfl _ #[.int .i64 a.x, .int .i64 a.y, .int .i64 a.z] rfl rfl _ _ hx (need_info _ rfl) rfl (need_one _ _ _) ?_)
      | (refine load_wanted rfl 23 _ rfl _ rfl _ _ _ _ k1 Tryd.underlying23 rfl (need_info _ rfl) ?_)
      | (go_at_call 34; refine hck.mono ?_; rintro e w6 ⟨rfl, hb6⟩; have q0 := (hb6.block w.heap.size (Array.getElem?_eq_some_iff.1 k0).1).trans k0; have q1 := (hb6.block w3.heap.size (Array.getElem?_eq_some_iff.1 k1).1).trans k1; have hB6 : Hid (Below w.heap.size w w6) := hB5.out.trans (hb6.mono hB5.out.size); clear hck k0 k1)
      | (refine load_wanted rfl 23 _ rfl _ rfl _ _ _ _ q1 Tryd.underlying23 rfl (need_info _ rfl) ?_)
      | (refine wpList_store_row rfl 23 _ _ rfl _ #[.int .i64 a.x, .int .i64 a.y, .int .i64 a.z] rfl rfl _ _ q0 (need_info _ rfl) rfl (need_one _ _ _) ?_)
      | go_in)
    refine bodyPost_ret (results_Read rfl (setRow_heap _ w.heap.size _ _ _ _ q0) rfl rfl) rfl ⟨rfl, below_row hB6.out (by omega)⟩

/-- What Read answers. -/
theorem Read_any (s : ByteArray) (w : World) (hM : TabM w) (hs : s.size ≤ maxLen) (R : Option N3) (HR : rdN s.data.toList = R) :
    Calls Tryd.prog 10 #[.string s] w fun e w' => e = .returned (.tuple #[.agg #[.int .i64 (rV R).x, .int .i64 (rV R).y, .int .i64 (rV R).z], .int .i64 (rE R)]) ∧ Below w.heap.size w w' := by
  cases R with
  | none => exact Read_none s w hM hs HR
  | some a =>
    cases hv : okN a with
    | false =>
      have e1 : rV (some a) = nz := by show (if okN a then a else nz) = nz; rw [hv]; rfl
      have e2 : rE (some a) = ce false := by show ce (okN a) = _; rw [hv]
      rw [e1, e2]
      exact Read_some s w hM hs a HR false hv
    | true =>
      have e1 : rV (some a) = a := by show (if okN a then a else nz) = a; rw [hv]; rfl
      have e2 : rE (some a) = ce true := by show ce (okN a) = _; rw [hv]
      rw [e1, e2]
      exact Read_some s w hM hs a HR true hv
end Go.Proofs.YtmhidmocmolgfaaDoor
