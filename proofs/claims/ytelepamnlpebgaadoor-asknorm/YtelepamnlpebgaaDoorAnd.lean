/- AskAnd, walked. -/
import Derived.Test.YtelepamnlpebgaaDoorAho
import Derived.Test.YtelepamnlpebgaaDoorAks
import Derived.Test.YtelepamnlpebgaaDoorNgd
import Derived.Test.YtelepamnlpebgaaDoorAlf
namespace Go.Proofs.YtelepamnlpebgaaDoor
open Go.RowKit Go.Shelf Akm Ndm
set_option linter.unusedSectionVars false
set_option linter.unusedVariables false

theorem host_info (cs : Array Value) (h : cs.size = 8) : (Tryd.prog.info? 40).map (·.size) = some cs.size := by rw [h]; kernel_rfl
theorem ho4 (f : Tr → Bool) (a b : ByteArray) (n : Int) (x : Tr) : hoT f (.mk 4 a b n [x]) = !(hoT f x) := by
  rw [hoT, if_pos rfl]
  rfl
theorem ho5 (f : Tr → Bool) (a b : ByteArray) (n : Int) (x y : Tr) : hoT f (.mk 5 a b n [x, y]) = (hoT f x && hoT f y) := by
  rw [hoT, if_neg (show ¬ ((5 : Int) = 4) by decide), if_pos rfl]
  rfl
theorem ho6 (f : Tr → Bool) (a b : ByteArray) (n : Int) (x y : Tr) : hoT f (.mk 6 a b n [x, y]) = (hoT f x || hoT f y) := by
  rw [hoT, if_neg (show ¬ ((6 : Int) = 4) by decide), if_neg (show ¬ ((6 : Int) = 5) by decide), if_pos rfl]
  rfl
/-- What Holds answers. -/
def hvT (L : List (ByteArray × ByteArray)) (hs : N3) (t : Tr) : Bool := if ckT t = 0 then hoT (soT L hs) t else false
theorem Holds_v (k : Int) (a b : ByteArray) (n : Int) (xs : List Tr) (p : Option Addr) (m cap : Nat) (hm : xs.length = m) (nm : ByteArray) (pl : Option Addr) (L : List (ByteArray × ByteArray)) (ln cl : Nat) (hln : L.length = ln) (hLi : (ln : Int) ≤ 9223372036854775807) (hs us : N3) (w : World) (hv : liesT w (.mk k a b n xs) (.agg #[.int .i64 k, .string a, .string b, .int .i64 n, .slice p m cap])) (hL : Lbs w pl L) (hA : TabA w) :
    Calls Tryd.prog 16 #[.agg #[.int .i64 k, .string a, .string b, .int .i64 n, .slice p m cap], .agg #[.string nm, .slice pl ln cl, .int .i64 hs.x, .int .i64 hs.y, .int .i64 hs.z, .int .i64 us.x, .int .i64 us.y, .int .i64 us.z]] w fun e w' => e = .returned (.tuple #[.bool (hvT L hs (.mk k a b n xs)), .int .i64 (ckT (.mk k a b n xs))]) ∧ Below w.heap.size w w' :=
  Holds_any k a b n xs p m cap hm nm pl L ln cl hln hLi hs us w hv hL hA _ rfl _ rfl
theorem good2 (w : World) (e g : Int) : Calls Tryd.prog 26 #[.slice (some ⟨w.heap.size, 0, none⟩) 2 2] (w.alloc (.cells #[.int .i64 e, .int .i64 g] 25)) fun x w' => x = .returned (.bool (gdB [e, g])) ∧ w' = w.alloc (.cells #[.int .i64 e, .int .i64 g] 25) :=
  good_any (L := [e, g]) rfl (by
    intro j hj
    rcases (show j = 0 ∨ j = 1 by omega) with rfl | rfl
    · exact (cell_of_row _ _ 0 _ _ _ (heap_alloc_new _ _)).trans rfl
    · exact (cell_of_row _ _ 1 _ _ _ (heap_alloc_new _ _)).trans rfl) (by omega)
theorem good4 (w : World) (e f g i : Int) : Calls Tryd.prog 26 #[.slice (some ⟨w.heap.size, 0, none⟩) 4 4] (w.alloc (.cells #[.int .i64 e, .int .i64 f, .int .i64 g, .int .i64 i] 25)) fun x w' => x = .returned (.bool (gdB [e, f, g, i])) ∧ w' = w.alloc (.cells #[.int .i64 e, .int .i64 f, .int .i64 g, .int .i64 i] 25) :=
  good_any (L := [e, f, g, i]) rfl (by
    intro j hj
    rcases (show j = 0 ∨ j = 1 ∨ j = 2 ∨ j = 3 by omega) with rfl | rfl | rfl | rfl
    · exact (cell_of_row _ _ 0 _ _ _ (heap_alloc_new _ _)).trans rfl
    · exact (cell_of_row _ _ 1 _ _ _ (heap_alloc_new _ _)).trans rfl
    · exact (cell_of_row _ _ 2 _ _ _ (heap_alloc_new _ _)).trans rfl
    · exact (cell_of_row _ _ 3 _ _ _ (heap_alloc_new _ _)).trans rfl) (by omega)

set_option maxHeartbeats 4000000 in
set_option maxRecDepth 100000 in
theorem askAnd_run (k : Int) (a b : ByteArray) (n : Int) (xs : List Tr) (p : Option Addr) (m cap : Nat) (hm : xs.length = m) (k' : Int) (a' b' : ByteArray) (n' : Int) (xs' : List Tr) (p' : Option Addr) (m' cap' : Nat) (hm' : xs'.length = m') (nm : ByteArray) (pl : Option Addr) (L : List (ByteArray × ByteArray)) (ln cl : Nat) (hln : L.length = ln) (hLi : (ln : Int) ≤ 9223372036854775807) (hs us : N3) (w : World) (hv : liesT w (.mk k a b n xs) (.agg #[.int .i64 k, .string a, .string b, .int .i64 n, .slice p m cap])) (hv' : liesT w (.mk k' a' b' n' xs') (.agg #[.int .i64 k', .string a', .string b', .int .i64 n', .slice p' m' cap'])) (hL : Lbs w pl L) (hA : TabA w) :
    Calls Tryd.prog 8 #[.agg #[.int .i64 k, .string a, .string b, .int .i64 n, .slice p m cap], .agg #[.int .i64 k', .string a', .string b', .int .i64 n', .slice p' m' cap'], .agg #[.string nm, .slice pl ln cl, .int .i64 hs.x, .int .i64 hs.y, .int .i64 hs.z, .int .i64 us.x, .int .i64 us.y, .int .i64 us.z]] w fun e w' => e = .returned (.bool true) ∧ Below w.heap.size w w' := by
  have hask := fun w1 (h : Below w.heap.size w w1) => asks_any w1 (hA.below h (Nat.le_refl _))
  have hx := fun w1 (h : Below w.heap.size w w1) => Holds_v k a b n xs p m cap hm nm pl L ln cl hln hLi hs us w1 (liesT_below _ _ hv h) (hL.below h) (hA.below h (Nat.le_refl _))
  have hy := fun w1 (h : Below w.heap.size w w1) => Holds_v k' a' b' n' xs' p' m' cap' hm' nm pl L ln cl hln hLi hs us w1 (liesT_below _ _ hv' h) (hL.below h) (hA.below h (Nat.le_refl _))
  have hn := fun w1 (h : Below w.heap.size w w1) => (fun (h2 : Below w.heap.size w (w1.alloc (.cells #[.int .i64 k, .string a, .string b, .int .i64 n, .slice p m cap] 24))) => Holds_v 4 ⟨#[]⟩ ⟨#[]⟩ 0 [.mk k a b n xs] (some ⟨w1.heap.size, 0, none⟩) 1 1 rfl nm pl L ln cl hln hLi hs us (w1.alloc (.cells #[.int .i64 k, .string a, .string b, .int .i64 n, .slice p m cap] 24)) (lies_of1 (heap_alloc_new _ _) (liesT_below _ _ hv h2) 4 ⟨#[]⟩ ⟨#[]⟩ 0 1) (hL.below h2) (hA.below h2 (Nat.le_refl _))) (h.alloc h.size _)
  have hbo := fun w1 (h : Below w.heap.size w w1) => (fun (h2 : Below w.heap.size w (w1.alloc (.cells #[.int .i64 k, .string a, .string b, .int .i64 n, .slice p m cap, .int .i64 k', .string a', .string b', .int .i64 n', .slice p' m' cap'] 24))) => Holds_v 5 ⟨#[]⟩ ⟨#[]⟩ 0 [.mk k a b n xs, .mk k' a' b' n' xs'] (some ⟨w1.heap.size, 0, none⟩) 2 2 rfl nm pl L ln cl hln hLi hs us (w1.alloc (.cells #[.int .i64 k, .string a, .string b, .int .i64 n, .slice p m cap, .int .i64 k', .string a', .string b', .int .i64 n', .slice p' m' cap'] 24)) (lies_of2 (heap_alloc_new _ _) (liesT_below _ _ hv h2) (liesT_below _ _ hv' h2) 5 ⟨#[]⟩ ⟨#[]⟩ 0 2) (hL.below h2) (hA.below h2 (Nat.le_refl _))) (h.alloc h.size _)
  have hon := fun w1 (h : Below w.heap.size w w1) => (fun (h2 : Below w.heap.size w (w1.alloc (.cells #[.int .i64 k, .string a, .string b, .int .i64 n, .slice p m cap, .int .i64 k', .string a', .string b', .int .i64 n', .slice p' m' cap'] 24))) => Holds_v 6 ⟨#[]⟩ ⟨#[]⟩ 0 [.mk k a b n xs, .mk k' a' b' n' xs'] (some ⟨w1.heap.size, 0, none⟩) 2 2 rfl nm pl L ln cl hln hLi hs us (w1.alloc (.cells #[.int .i64 k, .string a, .string b, .int .i64 n, .slice p m cap, .int .i64 k', .string a', .string b', .int .i64 n', .slice p' m' cap'] 24)) (lies_of2 (heap_alloc_new _ _) (liesT_below _ _ hv h2) (liesT_below _ _ hv' h2) 6 ⟨#[]⟩ ⟨#[]⟩ 0 2) (hL.below h2) (hA.below h2 (Nat.le_refl _))) (h.alloc h.size _)
  have q1 : Hid (gdB [ckT (.mk k a b n xs), ckT (.mk 4 ⟨#[]⟩ ⟨#[]⟩ 0 [.mk k a b n xs])] = true → hvT L hs (.mk 4 ⟨#[]⟩ ⟨#[]⟩ 0 [.mk k a b n xs]) = !(hvT L hs (.mk k a b n xs))) := by
    intro h
    simp [gdB] at h
    unfold hvT
    rw [if_pos h.1, if_pos h.2, ho4]
  have q2 : Hid (gdB [ckT (.mk k a b n xs), ckT (.mk k' a' b' n' xs'), ckT (.mk 5 ⟨#[]⟩ ⟨#[]⟩ 0 [.mk k a b n xs, .mk k' a' b' n' xs']), ckT (.mk 6 ⟨#[]⟩ ⟨#[]⟩ 0 [.mk k a b n xs, .mk k' a' b' n' xs'])] = true → hvT L hs (.mk 5 ⟨#[]⟩ ⟨#[]⟩ 0 [.mk k a b n xs, .mk k' a' b' n' xs']) = (hvT L hs (.mk k a b n xs) && hvT L hs (.mk k' a' b' n' xs')) ∧ hvT L hs (.mk 6 ⟨#[]⟩ ⟨#[]⟩ 0 [.mk k a b n xs, .mk k' a' b' n' xs']) = (hvT L hs (.mk k a b n xs) || hvT L hs (.mk k' a' b' n' xs'))) := by
    intro h
    simp [gdB] at h
    unfold hvT
    rw [if_pos h.1, if_pos h.2.1, if_pos h.2.2.1, if_pos h.2.2.2, ho5, ho6]
    exact ⟨rfl, rfl⟩
  generalize hvT L hs (.mk k a b n xs) = A at *
  generalize hvT L hs (.mk k' a' b' n' xs') = B at *
  generalize hvT L hs (.mk 4 ⟨#[]⟩ ⟨#[]⟩ 0 [.mk k a b n xs]) = C at *
  generalize hvT L hs (.mk 5 ⟨#[]⟩ ⟨#[]⟩ 0 [.mk k a b n xs, .mk k' a' b' n' xs']) = D at *
  generalize hvT L hs (.mk 6 ⟨#[]⟩ ⟨#[]⟩ 0 [.mk k a b n xs, .mk k' a' b' n' xs']) = E at *
  generalize ckT (.mk k a b n xs) = ea at *
  generalize ckT (.mk k' a' b' n' xs') = eb at *
  generalize ckT (.mk 4 ⟨#[]⟩ ⟨#[]⟩ 0 [.mk k a b n xs]) = ec at *
  generalize ckT (.mk 5 ⟨#[]⟩ ⟨#[]⟩ 0 [.mk k a b n xs, .mk k' a' b' n' xs']) = ed at *
  generalize ckT (.mk 6 ⟨#[]⟩ ⟨#[]⟩ 0 [.mk k a b n xs, .mk k' a' b' n' xs']) = ee at *
  have HB0 : Below w.heap.size w (((w.alloc (.cells #[.int .i64 k, .string a, .string b, .int .i64 n, .slice p m cap] 24)).alloc (.cells #[.int .i64 k', .string a', .string b', .int .i64 n', .slice p' m' cap'] 24)).alloc (.cells #[.string nm, .slice pl ln cl, .int .i64 hs.x, .int .i64 hs.y, .int .i64 hs.z, .int .i64 us.x, .int .i64 us.y, .int .i64 us.z] 40)) := (((Below.refl _ _).alloc (Nat.le_refl _) _).alloc (by simp) _).alloc (by simp; omega) _
  have fx0 : (((w.alloc (.cells #[.int .i64 k, .string a, .string b, .int .i64 n, .slice p m cap] 24)).alloc (.cells #[.int .i64 k', .string a', .string b', .int .i64 n', .slice p' m' cap'] 24)).alloc (.cells #[.string nm, .slice pl ln cl, .int .i64 hs.x, .int .i64 hs.y, .int .i64 hs.z, .int .i64 us.x, .int .i64 us.y, .int .i64 us.z] 40)).heap[w.heap.size]? = some (.cells #[.int .i64 k, .string a, .string b, .int .i64 n, .slice p m cap] 24 (0, 0)) := (Below.heap_alloc _ _ _ (by simp; omega)).trans ((Below.heap_alloc _ _ _ (by simp)).trans (heap_alloc_new _ _))
  have fy0 : (((w.alloc (.cells #[.int .i64 k, .string a, .string b, .int .i64 n, .slice p m cap] 24)).alloc (.cells #[.int .i64 k', .string a', .string b', .int .i64 n', .slice p' m' cap'] 24)).alloc (.cells #[.string nm, .slice pl ln cl, .int .i64 hs.x, .int .i64 hs.y, .int .i64 hs.z, .int .i64 us.x, .int .i64 us.y, .int .i64 us.z] 40)).heap[w.heap.size + 1]? = some (.cells #[.int .i64 k', .string a', .string b', .int .i64 n', .slice p' m' cap'] 24 (0, 0)) := by
    have h := heap_alloc_new (w.alloc (.cells #[.int .i64 k, .string a, .string b, .int .i64 n, .slice p m cap] 24)) (.cells #[.int .i64 k', .string a', .string b', .int .i64 n', .slice p' m' cap'] 24)
    rw [World.size_alloc] at h
    exact (Below.heap_alloc _ _ _ (by simp)).trans h
  have fh0 : (((w.alloc (.cells #[.int .i64 k, .string a, .string b, .int .i64 n, .slice p m cap] 24)).alloc (.cells #[.int .i64 k', .string a', .string b', .int .i64 n', .slice p' m' cap'] 24)).alloc (.cells #[.string nm, .slice pl ln cl, .int .i64 hs.x, .int .i64 hs.y, .int .i64 hs.z, .int .i64 us.x, .int .i64 us.y, .int .i64 us.z] 40)).heap[w.heap.size + 1 + 1]? = some (.cells #[.string nm, .slice pl ln cl, .int .i64 hs.x, .int .i64 hs.y, .int .i64 hs.z, .int .i64 us.x, .int .i64 us.y, .int .i64 us.z] 40 (0, 0)) := by
    have h := heap_alloc_new ((w.alloc (.cells #[.int .i64 k, .string a, .string b, .int .i64 n, .slice p m cap] 24)).alloc (.cells #[.int .i64 k', .string a', .string b', .int .i64 n', .slice p' m' cap'] 24)) (.cells #[.string nm, .slice pl ln cl, .int .i64 hs.x, .int .i64 hs.y, .int .i64 hs.z, .int .i64 us.x, .int .i64 us.y, .int .i64 us.z] 40)
    rw [World.size_alloc, World.size_alloc] at h
    exact h
  clear hv hv' hL hA hm hm' hln hLi
  go_enter Tryd.func8, Tryd.ntmps8
  go_wp2_with (first
    | (go_at_call 24; refine (hask _ HB0).mono ?_; rintro e w1 ⟨rfl, hb1⟩; have fx1 := (hb1.block _ (Array.getElem?_eq_some_iff.1 fx0).1).trans fx0; have fy1 := (hb1.block _ (Array.getElem?_eq_some_iff.1 fy0).1).trans fy0; have fh1 := (hb1.block _ (Array.getElem?_eq_some_iff.1 fh0).1).trans fh0; have HB1 : Below w.heap.size w w1 := HB0.trans (hb1.mono HB0.size); clear hb1  HB0 fx0 fy0 fh0 hask)
    | (refine load_wanted rfl 24 _ rfl _ rfl _ _ _ _ (fx1) Tryd.underlying24 rfl (ask_info _ rfl) ?_)
    | (refine load_wanted rfl 40 _ rfl _ rfl _ _ _ _ (fh1) Tryd.underlying40 rfl (host_info _ rfl) ?_)
    | (go_at_call 16; refine (hx _ HB1).mono ?_; rintro e w2 ⟨rfl, hb2⟩; have fx2 := (hb2.block _ (Array.getElem?_eq_some_iff.1 fx1).1).trans fx1; have fy2 := (hb2.block _ (Array.getElem?_eq_some_iff.1 fy1).1).trans fy1; have fh2 := (hb2.block _ (Array.getElem?_eq_some_iff.1 fh1).1).trans fh1; have HB2 : Below w.heap.size w w2 := HB1.trans (hb2.mono HB1.size); clear hb2  HB1 fx1 fy1 fh1 hx)
    | (refine load_wanted rfl 24 _ rfl _ rfl _ _ _ _ (fy2) Tryd.underlying24 rfl (ask_info _ rfl) ?_)
    | (refine load_wanted rfl 40 _ rfl _ rfl _ _ _ _ (fh2) Tryd.underlying40 rfl (host_info _ rfl) ?_)
    | (go_at_call 16; refine (hy _ HB2).mono ?_; rintro e w3 ⟨rfl, hb3⟩; have fx3 := (hb3.block _ (Array.getElem?_eq_some_iff.1 fx2).1).trans fx2; have fy3 := (hb3.block _ (Array.getElem?_eq_some_iff.1 fy2).1).trans fy2; have fh3 := (hb3.block _ (Array.getElem?_eq_some_iff.1 fh2).1).trans fh2; have HB3 : Below w.heap.size w w3 := HB2.trans (hb3.mono HB2.size); clear hb3  HB2 fx2 fy2 fh2 hy)
    | (refine load_wanted rfl 24 _ rfl _ rfl _ _ _ _ (fx3) Tryd.underlying24 rfl (ask_info _ rfl) ?_)
    | (refine load_wanted rfl 40 _ rfl _ rfl _ _ _ _ ((Below.heap_alloc _ _ _ (Array.getElem?_eq_some_iff.1 fh3).1).trans fh3) Tryd.underlying40 rfl (host_info _ rfl) ?_)
    | (go_at_call 16; refine (hn _ HB3).mono ?_; rintro e w4 ⟨rfl, hb4⟩; have hc4 := ((Below.refl _ _).alloc (Nat.le_refl _) _).trans (hb4.mono (by simp)); have fx4 := (hc4.block _ (Array.getElem?_eq_some_iff.1 fx3).1).trans fx3; have fy4 := (hc4.block _ (Array.getElem?_eq_some_iff.1 fy3).1).trans fy3; have fh4 := (hc4.block _ (Array.getElem?_eq_some_iff.1 fh3).1).trans fh3; have HB4 : Below w.heap.size w w4 := HB3.trans (hc4.mono HB3.size); clear hb4 hc4 HB3 fx3 fy3 fh3 hn)
    | (refine load_wanted rfl 24 _ rfl _ rfl _ _ _ _ (fx4) Tryd.underlying24 rfl (ask_info _ rfl) ?_)
    | (refine load_wanted rfl 24 _ rfl _ rfl _ _ _ _ (fy4) Tryd.underlying24 rfl (ask_info _ rfl) ?_)
    | (refine load_wanted rfl 40 _ rfl _ rfl _ _ _ _ ((Below.heap_alloc _ _ _ (Array.getElem?_eq_some_iff.1 fh4).1).trans fh4) Tryd.underlying40 rfl (host_info _ rfl) ?_)
    | (go_at_call 16; refine (hbo _ HB4).mono ?_; rintro e w5 ⟨rfl, hb5⟩; have hc5 := ((Below.refl _ _).alloc (Nat.le_refl _) _).trans (hb5.mono (by simp)); have fx5 := (hc5.block _ (Array.getElem?_eq_some_iff.1 fx4).1).trans fx4; have fy5 := (hc5.block _ (Array.getElem?_eq_some_iff.1 fy4).1).trans fy4; have fh5 := (hc5.block _ (Array.getElem?_eq_some_iff.1 fh4).1).trans fh4; have HB5 : Below w.heap.size w w5 := HB4.trans (hc5.mono HB4.size); clear hb5 hc5 HB4 fx4 fy4 fh4 hbo)
    | (refine load_wanted rfl 24 _ rfl _ rfl _ _ _ _ (fx5) Tryd.underlying24 rfl (ask_info _ rfl) ?_)
    | (refine load_wanted rfl 24 _ rfl _ rfl _ _ _ _ (fy5) Tryd.underlying24 rfl (ask_info _ rfl) ?_)
    | (refine load_wanted rfl 40 _ rfl _ rfl _ _ _ _ ((Below.heap_alloc _ _ _ (Array.getElem?_eq_some_iff.1 fh5).1).trans fh5) Tryd.underlying40 rfl (host_info _ rfl) ?_)
    | (go_at_call 16; refine (hon _ HB5).mono ?_; rintro e w6 ⟨rfl, hb6⟩; have hc6 := ((Below.refl _ _).alloc (Nat.le_refl _) _).trans (hb6.mono (by simp)); have HB6 : Below w.heap.size w w6 := HB5.trans (hc6.mono HB5.size); clear hb6 hc6 HB5 fx5 fy5 fh5 hon))
  refine (good2 w6 ea ec).mono ?_
  rintro e w7 ⟨rfl, hw7⟩
  have hB7 : Below w.heap.size w w7 := by rw [hw7]; exact HB6.alloc HB6.size _
  have hB7H : Hid (Below w.heap.size w w7) := hB7
  have hg4 := good4 w7 ea eb ed ee
  clear hw7 HB6 hB7
  generalize gdB [ea, ec] = r1 at *
  generalize gdB [ea, eb, ed, ee] = r2 at *
  cases r1 with
  | true =>
    obtain rfl := q1.out rfl
    cases r2 with
    | true =>
      obtain ⟨rfl, rfl⟩ := q2.out rfl
      clear q1 q2
      cases A <;> cases B
      all_goals
        go_wp2_with (first
          | (go_at_call 26; refine hg4.mono ?_; rintro e w8 ⟨rfl, hw8⟩; have hw8H : Hid (w8 = _) := hw8; clear hg4 hw8)
          | go_in)
        go_ret
        exact ⟨rfl, by rw [hw8H.out]; exact hB7H.out.alloc hB7H.out.size _⟩
    | false =>
      clear q1 q2
      cases A
      all_goals
        go_wp2_with (first
          | (go_at_call 26; refine hg4.mono ?_; rintro e w8 ⟨rfl, hw8⟩; have hw8H : Hid (w8 = _) := hw8; clear hg4 hw8)
          | go_in)
        go_ret
        exact ⟨rfl, by rw [hw8H.out]; exact hB7H.out.alloc hB7H.out.size _⟩
  | false =>
    clear q1
    cases r2 with
    | true =>
      obtain ⟨rfl, rfl⟩ := q2.out rfl
      clear q2
      cases A <;> cases B
      all_goals
        go_wp2_with (first
          | (go_at_call 26; refine hg4.mono ?_; rintro e w8 ⟨rfl, hw8⟩; have hw8H : Hid (w8 = _) := hw8; clear hg4 hw8)
          | go_in)
        go_ret
        exact ⟨rfl, by rw [hw8H.out]; exact hB7H.out.alloc hB7H.out.size _⟩
    | false =>
      clear q2
      go_wp2_with (first
        | (go_at_call 26; refine hg4.mono ?_; rintro e w8 ⟨rfl, hw8⟩; have hw8H : Hid (w8 = _) := hw8; clear hg4 hw8)
        | go_in)
      go_ret
      exact ⟨rfl, by rw [hw8H.out]; exact hB7H.out.alloc hB7H.out.size _⟩

theorem askAnd_walk (t : Tr) (v : Value) (t' : Tr) (v' : Value) (nm : ByteArray) (pl : Option Addr) (L : List (ByteArray × ByteArray)) (cl : Nat) (hs us : N3) (w : World) (hA : TabA w) (hv : liesT w t v) (hv' : liesT w t' v') (hLi : (L.length : Int) ≤ 9223372036854775807) (hL : Lbs w pl L) :
    Calls Tryd.prog 8 #[v, v', .agg #[.string nm, .slice pl L.length cl, .int .i64 hs.x, .int .i64 hs.y, .int .i64 hs.z, .int .i64 us.x, .int .i64 us.y, .int .i64 us.z]] w fun e w' => e = .returned (.bool true) ∧ Below w.heap.size w w' := by
  obtain ⟨k, a, b, n, xs⟩ := t
  obtain ⟨k', a', b', n', xs'⟩ := t'
  have hv1 := hv
  have hv2 := hv'
  rw [liesT] at hv hv'
  obtain ⟨p, cap, rfl, _, _⟩ := hv
  obtain ⟨p', cap', rfl, _, _⟩ := hv'
  exact askAnd_run k a b n xs p xs.length cap rfl k' a' b' n' xs' p' xs'.length cap' rfl nm pl L L.length cl rfl hLi hs us w hv1 hv2 hL hA
end Go.Proofs.YtelepamnlpebgaaDoor
