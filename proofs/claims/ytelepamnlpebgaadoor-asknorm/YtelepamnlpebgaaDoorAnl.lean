/- AskNorm, walked. -/
import Derived.Test.YtelepamnlpebgaaDoorNom
import Derived.Test.YtelepamnlpebgaaDoorAnd
namespace Go.Proofs.YtelepamnlpebgaaDoor
open Go.RowKit Go.Shelf Akm Ndm
set_option linter.unusedSectionVars false
set_option linter.unusedVariables false

theorem two_boxes_ah (w : World) (c0 c1 c2 c3 c4 : Value) (nm : ByteArray) (pl : Option Addr) (ln cl : Nat) (hs us : N3) : ((w.alloc (.cells #[c0, c1, c2, c3, c4] 24)).alloc (.cells #[.string nm, .slice pl ln cl, .int .i64 hs.x, .int .i64 hs.y, .int .i64 hs.z, .int .i64 us.x, .int .i64 us.y, .int .i64 us.z] 40)).heap[w.heap.size]? = some (.cells #[c0, c1, c2, c3, c4] 24 (0, 0)) ∧ ((w.alloc (.cells #[c0, c1, c2, c3, c4] 24)).alloc (.cells #[.string nm, .slice pl ln cl, .int .i64 hs.x, .int .i64 hs.y, .int .i64 hs.z, .int .i64 us.x, .int .i64 us.y, .int .i64 us.z] 40)).heap[w.heap.size + 1]? = some (.cells #[.string nm, .slice pl ln cl, .int .i64 hs.x, .int .i64 hs.y, .int .i64 hs.z, .int .i64 us.x, .int .i64 us.y, .int .i64 us.z] 40 (0, 0)) ∧ Below w.heap.size w ((w.alloc (.cells #[c0, c1, c2, c3, c4] 24)).alloc (.cells #[.string nm, .slice pl ln cl, .int .i64 hs.x, .int .i64 hs.y, .int .i64 hs.z, .int .i64 us.x, .int .i64 us.y, .int .i64 us.z] 40)) := by
  refine ⟨(Below.heap_alloc _ _ _ (by simp)).trans (heap_alloc_new _ _), ?_, ((Below.refl _ _).alloc (Nat.le_refl _) _).alloc (by simp) _⟩
  have h := heap_alloc_new (w.alloc (.cells #[c0, c1, c2, c3, c4] 24)) (.cells #[.string nm, .slice pl ln cl, .int .i64 hs.x, .int .i64 hs.y, .int .i64 hs.z, .int .i64 us.x, .int .i64 us.y, .int .i64 us.z] 40)
  rw [World.size_alloc] at h
  exact h
theorem lies_tz (w : World) : liesT w tz (.agg #[.int .i64 0, .string ⟨#[]⟩, .string ⟨#[]⟩, .int .i64 0, .slice none 0 0]) := lies_atom w 0 ⟨#[]⟩ ⟨#[]⟩ 0
theorem good3 (w : World) (e g i : Int) : Calls Tryd.prog 26 #[.slice (some ⟨w.heap.size, 0, none⟩) 3 3] (w.alloc (.cells #[.int .i64 e, .int .i64 g, .int .i64 i] 25)) fun x w' => x = .returned (.bool (gdB [e, g, i])) ∧ w' = w.alloc (.cells #[.int .i64 e, .int .i64 g, .int .i64 i] 25) :=
  good_any (L := [e, g, i]) rfl (by
    intro j hj
    rcases (show j = 0 ∨ j = 1 ∨ j = 2 by omega) with rfl | rfl | rfl
    · exact (cell_of_row _ _ 0 _ _ _ (heap_alloc_new _ _)).trans rfl
    · exact (cell_of_row _ _ 1 _ _ _ (heap_alloc_new _ _)).trans rfl
    · exact (cell_of_row _ _ 2 _ _ _ (heap_alloc_new _ _)).trans rfl) (by omega)

set_option maxHeartbeats 4000000 in
set_option maxRecDepth 100000 in
/-- Where Norm has an error. -/
theorem askNorm_bad (k : Int) (a b : ByteArray) (n : Int) (xs : List Tr) (p : Option Addr) (m cap : Nat) (nm : ByteArray) (pl : Option Addr) (ln cl : Nat) (hs us : N3) (w : World) (hA : TabA w) (E : Int) (h0 : E ≠ 0)
    (hno : ∀ w1, Below w.heap.size w w1 → Calls Tryd.prog 17 #[.agg #[.int .i64 k, .string a, .string b, .int .i64 n, .slice p m cap]] w1 fun e w' => e = .returned (.tuple #[.agg #[.int .i64 0, .string ⟨#[]⟩, .string ⟨#[]⟩, .int .i64 0, .slice none 0 0], .int .i64 E]) ∧ Below w1.heap.size w1 w') :
    Calls Tryd.prog 6 #[.agg #[.int .i64 k, .string a, .string b, .int .i64 n, .slice p m cap], .agg #[.string nm, .slice pl ln cl, .int .i64 hs.x, .int .i64 hs.y, .int .i64 hs.z, .int .i64 us.x, .int .i64 us.y, .int .i64 us.z]] w fun e w' => e = .returned (.bool true) ∧ Below w.heap.size w w' := by
  have hask := fun w1 (h : Below w.heap.size w w1) => asks_any w1 (hA.below h (Nat.le_refl _))
  obtain ⟨fx0, fh0, HB0⟩ := two_boxes_ah w (.int .i64 k) (.string a) (.string b) (.int .i64 n) (.slice p m cap) nm pl ln cl hs us
  have hne : (E != 0) = true := by simpa using h0
  have hsm := fun w1 => same_in tz _ _ w1 (lies_tz w1) (lies_tz w1)
  clear hA h0
  go_enter Tryd.func6, Tryd.ntmps6
  go_wp2_with (first
    | (go_at_call 24; refine (hask _ HB0).mono ?_; rintro e w1 ⟨rfl, hb1⟩; have fx1 := (hb1.block _ (Array.getElem?_eq_some_iff.1 fx0).1).trans fx0; have fh1 := (hb1.block _ (Array.getElem?_eq_some_iff.1 fh0).1).trans fh0; have HB1 : Below w.heap.size w w1 := HB0.trans (hb1.mono HB0.size); clear hb1  HB0 fx0 fh0 hask)
    | (refine load_wanted rfl 24 _ rfl _ rfl _ _ _ _ (fx1) Tryd.underlying24 rfl (ask_info _ rfl) ?_)
    | (go_at_call 17; refine (hno _ HB1).mono ?_; rintro e w2 ⟨rfl, hb2⟩; have fx2 := (Below.heap_alloc w2 (.cells #[.int .i64 0, .string ⟨#[]⟩, .string ⟨#[]⟩, .int .i64 0, .slice none 0 0] 24) _ (Array.getElem?_eq_some_iff.1 ((hb2.block _ (Array.getElem?_eq_some_iff.1 fx1).1).trans fx1)).1).trans ((hb2.block _ (Array.getElem?_eq_some_iff.1 fx1).1).trans fx1); have fh2 := (Below.heap_alloc w2 (.cells #[.int .i64 0, .string ⟨#[]⟩, .string ⟨#[]⟩, .int .i64 0, .slice none 0 0] 24) _ (Array.getElem?_eq_some_iff.1 ((hb2.block _ (Array.getElem?_eq_some_iff.1 fh1).1).trans fh1)).1).trans ((hb2.block _ (Array.getElem?_eq_some_iff.1 fh1).1).trans fh1); have fn2 := heap_alloc_new w2 (.cells #[.int .i64 0, .string ⟨#[]⟩, .string ⟨#[]⟩, .int .i64 0, .slice none 0 0] 24); have HB2 : Below w.heap.size w (w2.alloc (.cells #[.int .i64 0, .string ⟨#[]⟩, .string ⟨#[]⟩, .int .i64 0, .slice none 0 0] 24)) := (HB1.trans (hb2.mono HB1.size)).alloc (Nat.le_trans HB1.size hb2.size) _; clear hb2  HB1 fx1 fh1 hno)
    | (refine load_wanted rfl 24 _ rfl _ rfl _ _ _ _ (fn2) Tryd.underlying24 rfl (ask_info _ rfl) ?_)
    | (go_at_call 25; refine (hsm _).mono ?_; rintro e w3 ⟨rfl, hb3⟩; have fx3 := (hb3.block _ (Array.getElem?_eq_some_iff.1 fx2).1).trans fx2; have fh3 := (hb3.block _ (Array.getElem?_eq_some_iff.1 fh2).1).trans fh2; have fn3 := (hb3.block _ (Array.getElem?_eq_some_iff.1 fn2).1).trans fn2; have HB3 : Below w.heap.size w w3 := HB2.trans (hb3.mono HB2.size); clear hb3  HB2 fx2 fh2 fn2 hsm)
    | go_in)
  go_ret
  exact ⟨rfl, HB3⟩

theorem Norm_fine (k : Int) (a b : ByteArray) (n : Int) (xs : List Tr) (p : Option Addr) (m cap : Nat) (hm : xs.length = m) (w : World) (hv : liesT w (.mk k a b n xs) (.agg #[.int .i64 k, .string a, .string b, .int .i64 n, .slice p m cap])) (hA : TabA w) (hE : ckT (.mk k a b n xs) = 0) (k3 : Int) (a3 b3 : ByteArray) (n3 : Int) (xs3 : List Tr) (m3 : Nat) (hN : nrT false (.mk k a b n xs) = .mk k3 a3 b3 n3 xs3) (hm3 : xs3.length = m3) (hr : szT (.mk k3 a3 b3 n3 xs3) ≤ 60) :
    Calls Tryd.prog 17 #[.agg #[.int .i64 k, .string a, .string b, .int .i64 n, .slice p m cap]] w fun e w' => (∃ p3 cap3, e = .returned (.tuple #[.agg #[.int .i64 k3, .string a3, .string b3, .int .i64 n3, .slice p3 m3 cap3], .int .i64 0]) ∧ liesF w.heap.size w' (.mk k3 a3 b3 n3 xs3) (.agg #[.int .i64 k3, .string a3, .string b3, .int .i64 n3, .slice p3 m3 cap3])) ∧ Below w.heap.size w w' :=
  (Norm_run k a b n xs p m cap hm w hv hA hE k3 a3 b3 n3 xs3 m3 hN hm3 false (decide_eq_false (by omega))).mono fun e w' ⟨⟨p3, cap3, h1, h2⟩, h3⟩ => ⟨⟨p3, cap3, h1, h2⟩, h3⟩

set_option maxHeartbeats 8000000 in
set_option maxRecDepth 100000 in
/-- Where Norm has none. -/
theorem askNorm_ok (k : Int) (a b : ByteArray) (n : Int) (xs : List Tr) (p : Option Addr) (m cap : Nat) (hm : xs.length = m) (nm : ByteArray) (pl : Option Addr) (L : List (ByteArray × ByteArray)) (ln cl : Nat) (hln : L.length = ln) (hLi : (ln : Int) ≤ 9223372036854775807) (hs us : N3) (w : World) (hv : liesT w (.mk k a b n xs) (.agg #[.int .i64 k, .string a, .string b, .int .i64 n, .slice p m cap])) (hL : Lbs w pl L) (hA : TabA w) (hE : ckT (.mk k a b n xs) = 0) (h60 : szT (nrT false (.mk k a b n xs)) ≤ 60) :
    Calls Tryd.prog 6 #[.agg #[.int .i64 k, .string a, .string b, .int .i64 n, .slice p m cap], .agg #[.string nm, .slice pl ln cl, .int .i64 hs.x, .int .i64 hs.y, .int .i64 hs.z, .int .i64 us.x, .int .i64 us.y, .int .i64 us.z]] w fun e w' => e = .returned (.bool true) ∧ Below w.heap.size w w' := by
  obtain ⟨hok, _⟩ := okT_of hE
  have hok3 := ok_nr _ hok false
  have hnn := nr_nr _ hok false
  have hho := ho_nr (soT L hs) _ hok false
  have hpl := pl_nr _ hok false
  obtain ⟨T3, hT3⟩ : ∃ T3, nrT false (.mk k a b n xs) = T3 := ⟨_, rfl⟩
  rw [hT3] at h60 hok3 hnn hho hpl
  obtain ⟨k3, a3, b3, n3, xs3⟩ := T3
  obtain ⟨m3, hm3⟩ : ∃ m, xs3.length = m := ⟨_, rfl⟩
  have hE3 := ckT_ok hok3 h60
  have hask := fun w1 (h : Below w.heap.size w w1) => asks_any w1 (hA.below h (Nat.le_refl _))
  have hno := fun w1 (h : Below w.heap.size w w1) => Norm_fine k a b n xs p m cap hm w1 (liesT_below _ _ hv h) (hA.below h (Nat.le_refl _)) hE k3 a3 b3 n3 xs3 m3 hT3 hm3 h60
  have hno2 := fun w1 (p3 : Option Addr) (cap3 : Nat) (hl : liesT w1 (.mk k3 a3 b3 n3 xs3) (.agg #[.int .i64 k3, .string a3, .string b3, .int .i64 n3, .slice p3 m3 cap3])) (h : Below w.heap.size w w1) => Norm_fine k3 a3 b3 n3 xs3 p3 m3 cap3 hm3 w1 hl (hA.below h (Nat.le_refl _)) hE3 k3 a3 b3 n3 xs3 m3 hnn hm3 h60
  have hx := fun w1 (h : Below w.heap.size w w1) => Holds_v k a b n xs p m cap hm nm pl L ln cl hln hLi hs us w1 (liesT_below _ _ hv h) (hL.below h) (hA.below h (Nat.le_refl _))
  have hx3 := fun w1 (p3 : Option Addr) (cap3 : Nat) (hl : liesT w1 (.mk k3 a3 b3 n3 xs3) (.agg #[.int .i64 k3, .string a3, .string b3, .int .i64 n3, .slice p3 m3 cap3])) (h : Below w.heap.size w w1) => Holds_v k3 a3 b3 n3 xs3 p3 m3 cap3 hm3 nm pl L ln cl hln hLi hs us w1 hl (hL.below h) (hA.below h (Nat.le_refl _))
  have hsm := fun w1 v v' => same_in (.mk k3 a3 b3 n3 xs3) v v' w1
  have hpn := fun w1 v => plain_in (.mk k3 a3 b3 n3 xs3) hpl v w1
  have hveq : hvT L hs (.mk k3 a3 b3 n3 xs3) = hvT L hs (.mk k a b n xs) := by
    unfold hvT
    rw [if_pos hE3, if_pos hE, hho]
    simp
  rw [hE] at hx
  rw [hE3, hveq] at hx3
  generalize hvT L hs (.mk k a b n xs) = V at *
  obtain ⟨fx0, fh0, HB0⟩ := two_boxes_ah w (.int .i64 k) (.string a) (.string b) (.int .i64 n) (.slice p m cap) nm pl ln cl hs us
  clear hA hv hL hLi hln hm hm3 hE hE3 h60 hok hok3 hnn hho hpl hT3 hveq
  go_enter Tryd.func6, Tryd.ntmps6
  go_wp2_with (first
    | (go_at_call 24; refine (hask _ HB0).mono ?_; rintro e w1 ⟨rfl, hb1⟩; have fx1 := (hb1.block _ (Array.getElem?_eq_some_iff.1 fx0).1).trans fx0; have fh1 := (hb1.block _ (Array.getElem?_eq_some_iff.1 fh0).1).trans fh0; have HB1 : Below w.heap.size w w1 := HB0.trans (hb1.mono HB0.size); clear hb1  HB0 fx0 fh0 hask)
    | (refine load_wanted rfl 24 _ rfl _ rfl _ _ _ _ (fx1) Tryd.underlying24 rfl (ask_info _ rfl) ?_)
    | (go_at_call 17; refine (hno _ HB1).mono ?_; rintro e w2 ⟨⟨p3, cap3, rfl, hl⟩, hb2⟩; have fx2 := (Below.heap_alloc w2 (.cells #[.int .i64 k3, .string a3, .string b3, .int .i64 n3, .slice p3 m3 cap3] 24) _ (Array.getElem?_eq_some_iff.1 ((hb2.block _ (Array.getElem?_eq_some_iff.1 fx1).1).trans fx1)).1).trans ((hb2.block _ (Array.getElem?_eq_some_iff.1 fx1).1).trans fx1); have fh2 := (Below.heap_alloc w2 (.cells #[.int .i64 k3, .string a3, .string b3, .int .i64 n3, .slice p3 m3 cap3] 24) _ (Array.getElem?_eq_some_iff.1 ((hb2.block _ (Array.getElem?_eq_some_iff.1 fh1).1).trans fh1)).1).trans ((hb2.block _ (Array.getElem?_eq_some_iff.1 fh1).1).trans fh1); have fn2 := heap_alloc_new w2 (.cells #[.int .i64 k3, .string a3, .string b3, .int .i64 n3, .slice p3 m3 cap3] 24); have HB2 : Below w.heap.size w (w2.alloc (.cells #[.int .i64 k3, .string a3, .string b3, .int .i64 n3, .slice p3 m3 cap3] 24)) := (HB1.trans (hb2.mono HB1.size)).alloc (Nat.le_trans HB1.size hb2.size) _; have hl2 := liesT_below _ _ hl.lies ((Below.refl _ w2).alloc (Nat.le_refl _) (.cells #[.int .i64 k3, .string a3, .string b3, .int .i64 n3, .slice p3 m3 cap3] 24)); clear hb2  HB1 fx1 fh1 hno hl)
    | (refine load_wanted rfl 24 _ rfl _ rfl _ _ _ _ (fn2) Tryd.underlying24 rfl (ask_info _ rfl) ?_)
    | (go_at_call 17; refine (hno2 _ _ _ hl2 HB2).mono ?_; rintro e w3 ⟨⟨p4, cap4, rfl, hlm⟩, hb3⟩; have fx3 := (Below.heap_alloc w3 (.cells #[.int .i64 k3, .string a3, .string b3, .int .i64 n3, .slice p4 m3 cap4] 24) _ (Array.getElem?_eq_some_iff.1 ((hb3.block _ (Array.getElem?_eq_some_iff.1 fx2).1).trans fx2)).1).trans ((hb3.block _ (Array.getElem?_eq_some_iff.1 fx2).1).trans fx2); have fh3 := (Below.heap_alloc w3 (.cells #[.int .i64 k3, .string a3, .string b3, .int .i64 n3, .slice p4 m3 cap4] 24) _ (Array.getElem?_eq_some_iff.1 ((hb3.block _ (Array.getElem?_eq_some_iff.1 fh2).1).trans fh2)).1).trans ((hb3.block _ (Array.getElem?_eq_some_iff.1 fh2).1).trans fh2); have fn3 := (Below.heap_alloc w3 (.cells #[.int .i64 k3, .string a3, .string b3, .int .i64 n3, .slice p4 m3 cap4] 24) _ (Array.getElem?_eq_some_iff.1 ((hb3.block _ (Array.getElem?_eq_some_iff.1 fn2).1).trans fn2)).1).trans ((hb3.block _ (Array.getElem?_eq_some_iff.1 fn2).1).trans fn2); have fm3 := heap_alloc_new w3 (.cells #[.int .i64 k3, .string a3, .string b3, .int .i64 n3, .slice p4 m3 cap4] 24); have HB3 : Below w.heap.size w (w3.alloc (.cells #[.int .i64 k3, .string a3, .string b3, .int .i64 n3, .slice p4 m3 cap4] 24)) := (HB2.trans (hb3.mono HB2.size)).alloc (Nat.le_trans HB2.size hb3.size) _; have hl3 := liesT_below _ _ (liesT_below _ _ hl2 hb3) ((Below.refl _ w3).alloc (Nat.le_refl _) (.cells #[.int .i64 k3, .string a3, .string b3, .int .i64 n3, .slice p4 m3 cap4] 24)); have hlm3 := liesT_below _ _ hlm.lies ((Below.refl _ w3).alloc (Nat.le_refl _) (.cells #[.int .i64 k3, .string a3, .string b3, .int .i64 n3, .slice p4 m3 cap4] 24)); clear hb3  HB2 fx2 fh2 fn2 hno2 hl2 hlm)
    | (refine load_wanted rfl 24 _ rfl _ rfl _ _ _ _ (fx3) Tryd.underlying24 rfl (ask_info _ rfl) ?_)
    | (refine load_wanted rfl 40 _ rfl _ rfl _ _ _ _ (fh3) Tryd.underlying40 rfl (host_info _ rfl) ?_)
    | (go_at_call 16; refine (hx _ HB3).mono ?_; rintro e w4 ⟨rfl, hb4⟩; have fx4 := (hb4.block _ (Array.getElem?_eq_some_iff.1 fx3).1).trans fx3; have fh4 := (hb4.block _ (Array.getElem?_eq_some_iff.1 fh3).1).trans fh3; have fn4 := (hb4.block _ (Array.getElem?_eq_some_iff.1 fn3).1).trans fn3; have fm4 := (hb4.block _ (Array.getElem?_eq_some_iff.1 fm3).1).trans fm3; have HB4 : Below w.heap.size w w4 := HB3.trans (hb4.mono HB3.size); have hl4 := liesT_below _ _ hl3 hb4; have hlm4 := liesT_below _ _ hlm3 hb4; clear hb4  HB3 fx3 fh3 fn3 fm3 hx hl3 hlm3)
    | (refine load_wanted rfl 24 _ rfl _ rfl _ _ _ _ (fn4) Tryd.underlying24 rfl (ask_info _ rfl) ?_)
    | (refine load_wanted rfl 40 _ rfl _ rfl _ _ _ _ (fh4) Tryd.underlying40 rfl (host_info _ rfl) ?_)
    | (go_at_call 16; refine (hx3 _ _ _ hl4 HB4).mono ?_; rintro e w5 ⟨rfl, hb5⟩; have fn5 := (hb5.block _ (Array.getElem?_eq_some_iff.1 fn4).1).trans fn4; have fm5 := (hb5.block _ (Array.getElem?_eq_some_iff.1 fm4).1).trans fm4; have HB5 : Below w.heap.size w w5 := HB4.trans (hb5.mono HB4.size); have hl5 := liesT_below _ _ hl4 hb5; have hlm5 := liesT_below _ _ hlm4 hb5; clear hb5  HB4 fx4 fh4 fn4 fm4 hx3 hl4 hlm4))
  refine (good3 w5 0 0 0).mono ?_
  rintro e w6 ⟨rfl, hb6⟩
  have hB6 : Below w5.heap.size w5 w6 := by rw [hb6]; exact (Below.refl _ _).alloc (Nat.le_refl _) _
  have fn6 := (hB6.block _ (Array.getElem?_eq_some_iff.1 fn5).1).trans fn5
  have fm6 := (hB6.block _ (Array.getElem?_eq_some_iff.1 fm5).1).trans fm5
  have HB6 : Below w.heap.size w w6 := HB5.trans (hB6.mono HB5.size)
  have hl6 := liesT_below _ _ hl5 hB6
  have hlm6 := liesT_below _ _ hlm5 hB6
  have hg0 : gdB [0, 0, 0] = true := rfl
  rw [hg0]
  clear hb6 hB6 fn5 fm5 HB5 hl5 hlm5 hg0
  go_wp2_with (first
    | (refine load_wanted rfl 24 _ rfl _ rfl _ _ _ _ (fn6) Tryd.underlying24 rfl (ask_info _ rfl) ?_)
    | (go_at_call 27; refine (hpn _ _ hl6).mono ?_; rintro e w7 ⟨rfl, hb7⟩; have fn7 := (hb7.block _ (Array.getElem?_eq_some_iff.1 fn6).1).trans fn6; have fm7 := (hb7.block _ (Array.getElem?_eq_some_iff.1 fm6).1).trans fm6; have HB7 : Below w.heap.size w w7 := HB6.trans (hb7.mono HB6.size); have hl7 := liesT_below _ _ hl6 hb7; have hlm7 := liesT_below _ _ hlm6 hb7; clear hb7  HB6 fn6 fm6 hpn hl6 hlm6)
    | (refine load_wanted rfl 24 _ rfl _ rfl _ _ _ _ (fn7) Tryd.underlying24 rfl (ask_info _ rfl) ?_)
    | (refine load_wanted rfl 24 _ rfl _ rfl _ _ _ _ (fm7) Tryd.underlying24 rfl (ask_info _ rfl) ?_)
    | (go_at_call 25; refine (hsm _ _ _ hl7 hlm7).mono ?_; rintro e w8 ⟨rfl, hb8⟩; have HB8 : Below w.heap.size w w8 := HB7.trans (hb8.mono HB7.size); clear hb8  HB7 fn7 fm7 hsm hl7 hlm7)
    | go_in)
  go_ret
  exact ⟨by first | rfl | simp, HB8⟩

theorem askNorm_walk (t : Tr) (v : Value) (nm : ByteArray) (pl : Option Addr) (L : List (ByteArray × ByteArray)) (cl : Nat) (hs us : N3) (w : World) (hA : TabA w) (hv : liesT w t v) (hLi : (L.length : Int) ≤ 9223372036854775807) (hL : Lbs w pl L) :
    Calls Tryd.prog 6 #[v, .agg #[.string nm, .slice pl L.length cl, .int .i64 hs.x, .int .i64 hs.y, .int .i64 hs.z, .int .i64 us.x, .int .i64 us.y, .int .i64 us.z]] w fun e w' => e = .returned (.bool true) ∧ Below w.heap.size w w' := by
  obtain ⟨k, a, b, n, xs⟩ := t
  have hv1 := hv
  rw [liesT] at hv
  obtain ⟨p, cap, rfl, _, _⟩ := hv
  by_cases hE : ckT (.mk k a b n xs) = 0
  · by_cases h60 : szT (nrT false (.mk k a b n xs)) ≤ 60
    · exact askNorm_ok k a b n xs p _ cap rfl nm pl L _ cl rfl hLi hs us w hv1 hL hA hE h60
    · obtain ⟨T3, hT3⟩ : ∃ T3, nrT false (.mk k a b n xs) = T3 := ⟨_, rfl⟩
      obtain ⟨k3, a3, b3, n3, xs3⟩ := T3
      rw [hT3] at h60
      refine askNorm_bad k a b n xs p _ cap nm pl _ cl hs us w hA 2 (by decide) fun w1 h => ?_
      exact (Norm_run k a b n xs p _ cap rfl w1 (liesT_below _ _ hv1 h) (hA.below h (Nat.le_refl _)) hE k3 a3 b3 n3 xs3 _ hT3 rfl true (decide_eq_true (by omega))).mono fun e w' ⟨⟨p3, cap3, h1, _⟩, h2⟩ => ⟨h1, h2⟩
  · exact askNorm_bad k a b n xs p _ cap nm pl _ cl hs us w hA _ hE fun w1 h => Norm_bad k a b n xs p _ cap rfl w1 (liesT_below _ _ hv1 h) (hA.below h (Nat.le_refl _)) _ rfl hE
end Go.Proofs.YtelepamnlpebgaaDoor
