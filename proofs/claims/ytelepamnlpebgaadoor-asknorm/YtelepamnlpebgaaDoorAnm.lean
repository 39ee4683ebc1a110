/- ask.norm at every ask; ask.Norm. -/
import Derived.Test.YtelepamnlpebgaaDoorAnq
namespace Go.Proofs.YtelepamnlpebgaaDoor
open Go.RowKit Go.Shelf Akm Ndm
set_option linter.unusedSectionVars false
set_option linter.unusedVariables false

mutual
theorem norm_in (w0 : World) : ∀ t, NormOk w0 t
  | .mk k a b n xs => by
    by_cases h4 : k = 4
    · rw [h4]; exact norm_not w0 a b n xs (norm_each w0 xs)
    · by_cases h5 : k = 5
      · rw [h5]; exact norm_two5 w0 a b n xs (norm_each w0 xs)
      · by_cases h6 : k = 6
        · rw [h6]; exact norm_two6 w0 a b n xs (norm_each w0 xs)
        · exact norm_atom w0 k h4 h5 h6 a b n xs
theorem norm_each (w0 : World) : ∀ xs : List Tr, ∀ x ∈ xs, NormOk w0 x
  | [], x, hx => by cases hx
  | u :: r, x, hx => by
    rcases List.mem_cons.1 hx with h | h
    · rw [h]
      exact norm_in w0 u
    · exact norm_each w0 r x h
end

theorem results_norm {tmps : Array Value} {w : World} {g : Nat} {cs : Array Value} {v : Value} (hp : tmps.getD 2 undef = .pointer (some ⟨g, 0, none⟩)) (hg : w.heap[g]? = some (.cells cs 24 (0, 0))) (hcs : cs.size = 5) (h3 : tmps.getD 3 undef = v) : (results Tryd.f17 tmps).run Tryd.prog w = .ok (.tuple #[.agg cs, v]) w := by
  have hp' : tmps[2]?.getD undef = .pointer (some ⟨g, 0, none⟩) := by simpa using hp
  have h3' : tmps[3]?.getD undef = v := by simpa using h3
  simp [results, Tryd.results17, hp', h3', asAddr, run_loadVar_row w g 24 24 cs (0, 0) _ hg Tryd.underlying24 rfl (ask_info _ hcs)]

/-- What Norm leaves: the tree and the error. -/
def nmE (t : Tr) : Int := if ckT t = 0 then (if 60 < szT (nrT false t) then 2 else 0) else ckT t
def tz : Tr := .mk 0 ⟨#[]⟩ ⟨#[]⟩ 0 []
def nmT (t : Tr) : Tr := if ckT t = 0 then (if 60 < szT (nrT false t) then tz else nrT false t) else tz

set_option maxHeartbeats 4000000 in
set_option maxRecDepth 100000 in
theorem Norm_bad (k : Int) (a b : ByteArray) (n : Int) (xs : List Tr) (p : Option Addr) (m cap : Nat) (hm : xs.length = m) (w : World) (hv : liesT w (.mk k a b n xs) (.agg #[.int .i64 k, .string a, .string b, .int .i64 n, .slice p m cap])) (hA : TabA w) (E : Int) (hE : ckT (.mk k a b n xs) = E) (h0 : E ≠ 0) :
    Calls Tryd.prog 17 #[.agg #[.int .i64 k, .string a, .string b, .int .i64 n, .slice p m cap]] w fun e w' => e = .returned (.tuple #[.agg #[.int .i64 0, .string ⟨#[]⟩, .string ⟨#[]⟩, .int .i64 0, .slice none 0 0], .int .i64 E]) ∧ Below w.heap.size w w' := by
  obtain ⟨h1, h2, hBW, hsz⟩ := norm_boxes w (.int .i64 k) (.string a) (.string b) (.int .i64 n) (.slice p m cap)
  have hck := Check_any k a b n xs p m cap _ (liesT_below _ _ hv hBW) hm (hA.below hBW (Nat.le_refl _))
  rw [hE] at hck
  have hne : (E != 0) = true := by simpa using h0
  have hBH : Hid (Below w.heap.size w _) := hBW
  have hszH : Hid (_ = _) := hsz
  clear hv hA hE hm h0 hBW hsz
  go_enter Tryd.func17, Tryd.ntmps17
  go_wp2_with (first
    | (go_at_call 12; refine hck.mono ?_; rintro e w3 ⟨rfl, hb3⟩; clear hck; have g2 := (hb3.block (w.heap.size + 1) (by rw [hszH.out]; omega)).trans h2; clear h1 h2)
    | (refine load_wanted rfl 24 _ rfl _ rfl _ _ _ _ (h1) Tryd.underlying24 rfl (ask_info _ rfl) ?_)
    | (refine wpList_store_row rfl 24 _ _ rfl _ #[.int .i64 0, .string ⟨#[]⟩, .string ⟨#[]⟩, .int .i64 0, .slice none 0 0] rfl rfl _ _ (g2) (ask_info _ rfl) rfl (ask_one _ _ _ _ _ _ _) ?_)
    | go_in)
  refine bodyPost_ret (results_norm rfl (setRow_heap w3 (w.heap.size + 1) _ #[.int .i64 0, .string ⟨#[]⟩, .string ⟨#[]⟩, .int .i64 0, .slice none 0 0] _ _ g2) rfl rfl) rfl ?_
  exact ⟨rfl, below_row (hBH.out.trans (hb3.mono hBH.out.size)) (by omega)⟩

set_option maxHeartbeats 4000000 in
set_option maxRecDepth 100000 in
theorem Norm_run (k : Int) (a b : ByteArray) (n : Int) (xs : List Tr) (p : Option Addr) (m cap : Nat) (hm : xs.length = m) (w : World) (hv : liesT w (.mk k a b n xs) (.agg #[.int .i64 k, .string a, .string b, .int .i64 n, .slice p m cap])) (hA : TabA w) (hE : ckT (.mk k a b n xs) = 0) (k3 : Int) (a3 b3 : ByteArray) (n3 : Int) (xs3 : List Tr) (m3 : Nat) (hN : nrT false (.mk k a b n xs) = .mk k3 a3 b3 n3 xs3) (hm3 : xs3.length = m3) (r : Bool) (hr : Hid (decide (60 < szT (.mk k3 a3 b3 n3 xs3)) = r)) :
    Calls Tryd.prog 17 #[.agg #[.int .i64 k, .string a, .string b, .int .i64 n, .slice p m cap]] w fun e w' => (∃ p3 cap3, e = .returned (.tuple #[.agg (if r = true then #[.int .i64 0, .string ⟨#[]⟩, .string ⟨#[]⟩, .int .i64 0, .slice none 0 0] else #[.int .i64 k3, .string a3, .string b3, .int .i64 n3, .slice p3 m3 cap3]), .int .i64 (if r = true then 2 else 0)]) ∧ liesF w.heap.size w' (.mk k3 a3 b3 n3 xs3) (.agg #[.int .i64 k3, .string a3, .string b3, .int .i64 n3, .slice p3 m3 cap3])) ∧ Below w.heap.size w w' := by
  obtain ⟨h1, h2, hBW, hsz⟩ := norm_boxes w (.int .i64 k) (.string a) (.string b) (.int .i64 n) (.slice p m cap)
  have hck := Check_any k a b n xs p m cap _ (liesT_below _ _ hv hBW) hm (hA.below hBW (Nat.le_refl _))
  rw [hE] at hck
  have hno := fun W hW => norm_in w (.mk k a b n xs) false _ hv (okT_of hE).1 W hW k3 a3 b3 n3 xs3 m3 hN hm3
  have hlg := fun (w1 : World) (p3 : Option Addr) (cap3 : Nat) (h : liesT w1 (.mk k3 a3 b3 n3 xs3) (.agg #[.int .i64 k3, .string a3, .string b3, .int .i64 n3, .slice p3 m3 cap3])) => isLarge_any k3 a3 b3 n3 xs3 p3 m3 cap3 hm3 w1 h _ rfl r hr
  have hBH : Hid (Below w.heap.size w _) := hBW
  have hszH : Hid (_ = _) := hsz
  have hm3H : Hid (xs3.length = m3) := hm3
  clear hv hA hE hm hN hBW hsz hr hm3
  cases r
  all_goals
    simp only [if_true, Bool.false_eq_true, if_false]
    go_enter Tryd.func17, Tryd.ntmps17
    go_wp2_with (first
      | (go_at_call 12; refine hck.mono ?_; rintro e w3 ⟨rfl, hb3⟩; clear hck; trace "A"; have g2 := (hb3.block (w.heap.size + 1) (by rw [hszH.out]; omega)).trans h2; have g1 := (hb3.block w.heap.size (by rw [hszH.out]; omega)).trans h1; have hB3 : Below w.heap.size w w3 := hBH.out.trans (hb3.mono hBH.out.size); trace "B"; have hz3 : w.heap.size + 2 ≤ w3.heap.size := (by have h7 := hb3.size; have h8 := hszH.out; omega); trace "C"; clear h1 h2 hb3)
      | (refine load_wanted rfl 24 _ rfl _ rfl _ _ _ _ (h1) Tryd.underlying24 rfl (ask_info _ rfl) ?_)
      | (refine load_wanted rfl 24 _ rfl _ rfl _ _ _ _ (g1) Tryd.underlying24 rfl (ask_info _ rfl) ?_)
      | (go_at_call 39; refine (hno _ hB3).mono ?_; rintro e w4 ⟨⟨p3, cap3, rfl, hl4⟩, hb4⟩; clear hno; have hz4 : w3.heap.size ≤ w4.heap.size := hb4.size; have f3 := heap_alloc_new w4 (.cells #[.int .i64 0, .string ⟨#[]⟩, .string ⟨#[]⟩, .int .i64 0, .slice none 0 0] 24); have f6 := setRow_heap (w4.alloc (.cells #[.int .i64 0, .string ⟨#[]⟩, .string ⟨#[]⟩, .int .i64 0, .slice none 0 0] 24)) w4.heap.size _ #[.int .i64 k3, .string a3, .string b3, .int .i64 n3, .slice p3 m3 cap3] _ _ f3; have g6 := (setRow_other (w4.alloc (.cells #[.int .i64 0, .string ⟨#[]⟩, .string ⟨#[]⟩, .int .i64 0, .slice none 0 0] 24)) w4.heap.size (w.heap.size + 1) #[.int .i64 k3, .string a3, .string b3, .int .i64 n3, .slice p3 m3 cap3] (by omega)).trans ((Below.heap_alloc w4 (.cells #[.int .i64 0, .string ⟨#[]⟩, .string ⟨#[]⟩, .int .i64 0, .slice none 0 0] 24) (w.heap.size + 1) (by omega)).trans ((hb4.block (w.heap.size + 1) (by omega)).trans g2)); have hB6 : Below w.heap.size w ((w4.alloc (.cells #[.int .i64 0, .string ⟨#[]⟩, .string ⟨#[]⟩, .int .i64 0, .slice none 0 0] 24)).setRow w4.heap.size #[.int .i64 k3, .string a3, .string b3, .int .i64 n3, .slice p3 m3 cap3]) := below_row ((hB3.trans (hb4.mono hB3.size)).alloc (by omega) _) (by omega); have hl6 : liesF w3.heap.size ((w4.alloc (.cells #[.int .i64 0, .string ⟨#[]⟩, .string ⟨#[]⟩, .int .i64 0, .slice none 0 0] 24)).setRow w4.heap.size #[.int .i64 k3, .string a3, .string b3, .int .i64 n3, .slice p3 m3 cap3]) _ _ := hl4.keep (by simp [World.setRow]) (fun q _ hq => (setRow_other (w4.alloc (.cells #[.int .i64 0, .string ⟨#[]⟩, .string ⟨#[]⟩, .int .i64 0, .slice none 0 0] 24)) w4.heap.size q #[.int .i64 k3, .string a3, .string b3, .int .i64 n3, .slice p3 m3 cap3] (by omega)).trans (Below.heap_alloc w4 (.cells #[.int .i64 0, .string ⟨#[]⟩, .string ⟨#[]⟩, .int .i64 0, .slice none 0 0] 24) q hq)); clear g1 g2 hB3 hb4 hl4)
      | (refine wpList_store_row rfl 24 _ _ rfl _ #[.int .i64 k3, .string a3, .string b3, .int .i64 n3, .slice p3 m3 cap3] rfl rfl _ _ (f3) (ask_info _ rfl) rfl (ask_one _ _ _ _ _ _ _) ?_)
      | (go_at_call 31; refine (hlg _ p3 cap3 hl6.lies).mono ?_; rintro e w7 ⟨rfl, hb7⟩; clear hlg f3; have f7 := (hb7.block _ (Array.getElem?_eq_some_iff.1 f6).1).trans f6; have g7 := (hb7.block _ (Array.getElem?_eq_some_iff.1 g6).1).trans g6; have hB7 := hB6.trans (hb7.mono hB6.size); have hl7 := hl6.below hb7; clear f6 g6 hB6 hl6 hb7)
      | (refine load_wanted rfl 24 _ rfl _ rfl _ _ _ _ (f6) Tryd.underlying24 rfl (ask_info _ rfl) ?_)
      | (refine load_wanted rfl 24 _ rfl _ rfl _ _ _ _ (f7) Tryd.underlying24 rfl (ask_info _ rfl) ?_)
      | (refine wpList_store_row rfl 24 _ _ rfl _ #[.int .i64 0, .string ⟨#[]⟩, .string ⟨#[]⟩, .int .i64 0, .slice none 0 0] rfl rfl _ _ (g7) (ask_info _ rfl) rfl (ask_one _ _ _ _ _ _ _) ?_)
      | (refine wpList_store_row rfl 24 _ _ rfl _ #[.int .i64 k3, .string a3, .string b3, .int .i64 n3, .slice p3 m3 cap3] rfl rfl _ _ (g7) (ask_info _ rfl) rfl (ask_one _ _ _ _ _ _ _) ?_)
      | go_in)
    refine bodyPost_ret (results_norm rfl (setRow_heap w7 (w.heap.size + 1) _ _ _ _ g7) rfl rfl) rfl ?_
    exact ⟨⟨p3, cap3, rfl, (hl7.row (by omega) _).le (by omega)⟩, below_row hB7 (by omega)⟩
end Go.Proofs.YtelepamnlpebgaaDoor
