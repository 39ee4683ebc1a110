/- host.left, isFit, Fit: walked. -/
import Derived.Test.YtelepamnlpebgabDoorHck
namespace Go.Proofs.YtelepamnlpebgabDoor
open Go.RowKit Go.Shelf Akm Ndm
set_option linter.unusedSectionVars false
set_option linter.unusedVariables false

/-- What is left of a host, and what is wrong. -/
def lfE (hs us a : N3) : Int := if sE hs us ≠ 0 then sE hs us else sE (sR hs us) a
def lfR (hs us a : N3) : N3 := if sE hs us ≠ 0 then nz else sR (sR hs us) a

theorem boxes_hn (w : World) (nm : ByteArray) (pl : Option Addr) (ln cl : Nat) (hs us a : N3) : (((w.alloc (.cells #[.string nm, .slice pl ln cl, .int .i64 hs.x, .int .i64 hs.y, .int .i64 hs.z, .int .i64 us.x, .int .i64 us.y, .int .i64 us.z] 30)).alloc (.cells #[.int .i64 a.x, .int .i64 a.y, .int .i64 a.z] 27)).alloc (.cells #[.int .i64 0, .int .i64 0, .int .i64 0] 27)).heap[w.heap.size]? = some (.cells #[.string nm, .slice pl ln cl, .int .i64 hs.x, .int .i64 hs.y, .int .i64 hs.z, .int .i64 us.x, .int .i64 us.y, .int .i64 us.z] 30 (0, 0)) ∧ (((w.alloc (.cells #[.string nm, .slice pl ln cl, .int .i64 hs.x, .int .i64 hs.y, .int .i64 hs.z, .int .i64 us.x, .int .i64 us.y, .int .i64 us.z] 30)).alloc (.cells #[.int .i64 a.x, .int .i64 a.y, .int .i64 a.z] 27)).alloc (.cells #[.int .i64 0, .int .i64 0, .int .i64 0] 27)).heap[w.heap.size + 1]? = some (.cells #[.int .i64 a.x, .int .i64 a.y, .int .i64 a.z] 27 (0, 0)) ∧ (((w.alloc (.cells #[.string nm, .slice pl ln cl, .int .i64 hs.x, .int .i64 hs.y, .int .i64 hs.z, .int .i64 us.x, .int .i64 us.y, .int .i64 us.z] 30)).alloc (.cells #[.int .i64 a.x, .int .i64 a.y, .int .i64 a.z] 27)).alloc (.cells #[.int .i64 0, .int .i64 0, .int .i64 0] 27)).heap[w.heap.size + 2]? = some (.cells #[.int .i64 0, .int .i64 0, .int .i64 0] 27 (0, 0)) ∧ Below w.heap.size w (((w.alloc (.cells #[.string nm, .slice pl ln cl, .int .i64 hs.x, .int .i64 hs.y, .int .i64 hs.z, .int .i64 us.x, .int .i64 us.y, .int .i64 us.z] 30)).alloc (.cells #[.int .i64 a.x, .int .i64 a.y, .int .i64 a.z] 27)).alloc (.cells #[.int .i64 0, .int .i64 0, .int .i64 0] 27)) ∧ (((w.alloc (.cells #[.string nm, .slice pl ln cl, .int .i64 hs.x, .int .i64 hs.y, .int .i64 hs.z, .int .i64 us.x, .int .i64 us.y, .int .i64 us.z] 30)).alloc (.cells #[.int .i64 a.x, .int .i64 a.y, .int .i64 a.z] 27)).alloc (.cells #[.int .i64 0, .int .i64 0, .int .i64 0] 27)).heap.size = w.heap.size + 3 := by
  refine ⟨(Below.heap_alloc _ _ _ (by simp; omega)).trans ((Below.heap_alloc _ _ _ (by simp)).trans (heap_alloc_new _ _)), ?_, ?_, (((Below.refl _ _).alloc (Nat.le_refl _) _).alloc (by simp) _).alloc (by simp; omega) _, by simp⟩
  · have h := heap_alloc_new (w.alloc (.cells #[.string nm, .slice pl ln cl, .int .i64 hs.x, .int .i64 hs.y, .int .i64 hs.z, .int .i64 us.x, .int .i64 us.y, .int .i64 us.z] 30)) (.cells #[.int .i64 a.x, .int .i64 a.y, .int .i64 a.z] 27)
    rw [World.size_alloc] at h
    exact (Below.heap_alloc _ _ _ (by simp)).trans h
  · have h := heap_alloc_new ((w.alloc (.cells #[.string nm, .slice pl ln cl, .int .i64 hs.x, .int .i64 hs.y, .int .i64 hs.z, .int .i64 us.x, .int .i64 us.y, .int .i64 us.z] 30)).alloc (.cells #[.int .i64 a.x, .int .i64 a.y, .int .i64 a.z] 27)) (.cells #[.int .i64 0, .int .i64 0, .int .i64 0] 27)
    rw [World.size_alloc, World.size_alloc] at h
    exact h

set_option maxHeartbeats 4000000 in
set_option maxRecDepth 100000 in
theorem left_any (nm : ByteArray) (pl : Option Addr) (ln cl : Nat) (hs us a : N3) (w : World) (R : N3) (E : Int) (hR : lfR hs us a = R) (hE : lfE hs us a = E) : Calls Tryd.prog 37 #[.agg #[.string nm, .slice pl ln cl, .int .i64 hs.x, .int .i64 hs.y, .int .i64 hs.z, .int .i64 us.x, .int .i64 us.y, .int .i64 us.z], .agg #[.int .i64 a.x, .int .i64 a.y, .int .i64 a.z]] w fun e w' => e = .returned (.tuple #[.agg #[.int .i64 R.x, .int .i64 R.y, .int .i64 R.z], .int .i64 E]) ∧ Below w.heap.size w w' := by
  obtain ⟨f0, n0, z0, hB, hsz⟩ := boxes_hn w nm pl ln cl hs us a
  obtain ⟨F, hF⟩ : ∃ F, sR hs us = F := ⟨_, rfl⟩
  obtain ⟨E0, hE0⟩ : ∃ E0, sE hs us = E0 := ⟨_, rfl⟩
  have hfr := fun w1 => free_any nm pl ln cl hs us w1 F E0 hF hE0
  unfold lfR at hR
  unfold lfE at hE
  rw [hF, hE0] at hR
  rw [hF, hE0] at hE
  have hBH : Hid (Below w.heap.size w _) := hB
  have hszH : Hid (_ = _) := hsz
  clear hB hsz hF hE0
  by_cases h0 : E0 = 0
  · subst h0
    rw [if_neg (by decide)] at hR hE
    have hsb := fun w1 => Sub_any F a w1
    rw [hR, hE] at hsb
    clear hR hE
    go_enter Tryd.func37, Tryd.ntmps37
    go_wp2_with (first
      | (refine load_wanted rfl 30 _ rfl _ rfl _ _ _ _ (f0) Tryd.underlying30 rfl (host_info _ rfl) ?_)
      | (go_at_call 34; refine (hfr _).mono ?_; rintro e w3 ⟨rfl, hb3⟩; clear hfr; have n3 := (Below.heap_alloc w3 (.cells #[.int .i64 F.x, .int .i64 F.y, .int .i64 F.z] 27) (w.heap.size + 1) (by have h7 := hb3.size; have h8 := hszH.out; omega)).trans ((hb3.block (w.heap.size + 1) (by rw [hszH.out]; omega)).trans n0); have z3 := (Below.heap_alloc w3 (.cells #[.int .i64 F.x, .int .i64 F.y, .int .i64 F.z] 27) (w.heap.size + 2) (by have h7 := hb3.size; have h8 := hszH.out; omega)).trans ((hb3.block (w.heap.size + 2) (by rw [hszH.out]; omega)).trans z0); have t3 := heap_alloc_new w3 (.cells #[.int .i64 F.x, .int .i64 F.y, .int .i64 F.z] 27); have hB3 : Below w.heap.size w (w3.alloc (.cells #[.int .i64 F.x, .int .i64 F.y, .int .i64 F.z] 27)) := (hBH.out.trans (hb3.mono hBH.out.size)).alloc (by have h7 := hb3.size; have h8 := hszH.out; omega) _; clear f0 n0 z0 hb3)
      | (refine load_wanted rfl 27 _ rfl _ rfl _ _ _ _ (t3) Tryd.underlying27 rfl (need_info _ rfl) ?_)
      | (refine load_wanted rfl 27 _ rfl _ rfl _ _ _ _ (n3) Tryd.underlying27 rfl (need_info _ rfl) ?_)
      | (go_at_call 39; refine (hsb _).mono ?_; rintro e w4 ⟨rfl, hb4⟩; clear hsb; have z4 := (hb4.block _ (Array.getElem?_eq_some_iff.1 z3).1).trans z3; have hB4 : Below w.heap.size w w4 := hB3.trans (hb4.mono hB3.size); clear n3 t3 z3 hb4 hB3)
      | (refine wpList_store_row rfl 27 _ _ rfl _ #[.int .i64 R.x, .int .i64 R.y, .int .i64 R.z] rfl rfl _ _ (z4) (need_info _ rfl) rfl (need_one _ _ _) ?_)
      | go_in)
    refine bodyPost_ret (results_need Tryd.results37 rfl (setRow_heap w4 (w.heap.size + 2) _ _ _ _ z4) rfl rfl) rfl ⟨rfl, below_row hB4 (by omega)⟩
  · rw [if_pos h0] at hR hE
    subst hR hE
    have hne : (E0 != 0) = true := by simpa using h0
    clear h0
    go_enter Tryd.func37, Tryd.ntmps37
    go_wp2_with (first
      | (refine load_wanted rfl 30 _ rfl _ rfl _ _ _ _ (f0) Tryd.underlying30 rfl (host_info _ rfl) ?_)
      | (go_at_call 34; refine (hfr _).mono ?_; rintro e w3 ⟨rfl, hb3⟩; clear hfr; have z3 := (Below.heap_alloc w3 (.cells #[.int .i64 F.x, .int .i64 F.y, .int .i64 F.z] 27) (w.heap.size + 2) (by have h7 := hb3.size; have h8 := hszH.out; omega)).trans ((hb3.block (w.heap.size + 2) (by rw [hszH.out]; omega)).trans z0); have hB3 : Below w.heap.size w (w3.alloc (.cells #[.int .i64 F.x, .int .i64 F.y, .int .i64 F.z] 27)) := (hBH.out.trans (hb3.mono hBH.out.size)).alloc (by have h7 := hb3.size; have h8 := hszH.out; omega) _; clear f0 n0 z0 hb3)
      | (refine wpList_store_row rfl 27 _ _ rfl _ #[.int .i64 nz.x, .int .i64 nz.y, .int .i64 nz.z] rfl rfl _ _ (z3) (need_info _ rfl) rfl (need_one _ _ _) ?_)
      | go_in)
    refine bodyPost_ret (results_need Tryd.results37 rfl (setRow_heap (w3.alloc (.cells #[.int .i64 F.x, .int .i64 F.y, .int .i64 F.z] 27)) (w.heap.size + 2) _ _ _ _ z3) rfl rfl) rfl ⟨rfl, below_row hB3 (by omega)⟩

/-- What Holds answers. -/
def hvH (L : List (ByteArray × ByteArray)) (hs : N3) (t : Tr) : Bool := if ckT t = 0 then hoT (soT L hs) t else false
theorem HoldsH_v (k : Int) (a b : ByteArray) (n : Int) (xs : List Tr) (p : Option Addr) (m cap : Nat) (hm : xs.length = m) (nm : ByteArray) (pl : Option Addr) (L : List (ByteArray × ByteArray)) (ln cl : Nat) (hln : L.length = ln) (hLi : (ln : Int) ≤ 9223372036854775807) (hs us : N3) (w : World) (hv : liesT w (.mk k a b n xs) (.agg #[.int .i64 k, .string a, .string b, .int .i64 n, .slice p m cap])) (hL : Lbs w pl L) (hA : TabA w) :
    Calls Tryd.prog 29 #[.agg #[.int .i64 k, .string a, .string b, .int .i64 n, .slice p m cap], .agg #[.string nm, .slice pl ln cl, .int .i64 hs.x, .int .i64 hs.y, .int .i64 hs.z, .int .i64 us.x, .int .i64 us.y, .int .i64 us.z]] w fun e w' => e = .returned (.tuple #[.bool (hvH L hs (.mk k a b n xs)), .int .i64 (ckT (.mk k a b n xs))]) ∧ Below w.heap.size w w' :=
  Holds_any k a b n xs p m cap hm nm pl L ln cl hln hLi hs us w hv hL hA _ rfl _ rfl

/-- Does it fit a host? -/
def fiB (t : Tr) (c : N3) (h : Ht) : Bool := hvH h.L h.hs t && decide (lfE h.hs h.us c = 0)
theorem boxes_han (w : World) (nm : ByteArray) (pl : Option Addr) (ln cl : Nat) (hs us d : N3) (c0 c1 c2 c3 c4 : Value) : (((w.alloc (.cells #[.string nm, .slice pl ln cl, .int .i64 hs.x, .int .i64 hs.y, .int .i64 hs.z, .int .i64 us.x, .int .i64 us.y, .int .i64 us.z] 30)).alloc (.cells #[c0, c1, c2, c3, c4] 25)).alloc (.cells #[.int .i64 d.x, .int .i64 d.y, .int .i64 d.z] 27)).heap[w.heap.size]? = some (.cells #[.string nm, .slice pl ln cl, .int .i64 hs.x, .int .i64 hs.y, .int .i64 hs.z, .int .i64 us.x, .int .i64 us.y, .int .i64 us.z] 30 (0, 0)) ∧ (((w.alloc (.cells #[.string nm, .slice pl ln cl, .int .i64 hs.x, .int .i64 hs.y, .int .i64 hs.z, .int .i64 us.x, .int .i64 us.y, .int .i64 us.z] 30)).alloc (.cells #[c0, c1, c2, c3, c4] 25)).alloc (.cells #[.int .i64 d.x, .int .i64 d.y, .int .i64 d.z] 27)).heap[w.heap.size + 1]? = some (.cells #[c0, c1, c2, c3, c4] 25 (0, 0)) ∧ (((w.alloc (.cells #[.string nm, .slice pl ln cl, .int .i64 hs.x, .int .i64 hs.y, .int .i64 hs.z, .int .i64 us.x, .int .i64 us.y, .int .i64 us.z] 30)).alloc (.cells #[c0, c1, c2, c3, c4] 25)).alloc (.cells #[.int .i64 d.x, .int .i64 d.y, .int .i64 d.z] 27)).heap[w.heap.size + 2]? = some (.cells #[.int .i64 d.x, .int .i64 d.y, .int .i64 d.z] 27 (0, 0)) ∧ Below w.heap.size w (((w.alloc (.cells #[.string nm, .slice pl ln cl, .int .i64 hs.x, .int .i64 hs.y, .int .i64 hs.z, .int .i64 us.x, .int .i64 us.y, .int .i64 us.z] 30)).alloc (.cells #[c0, c1, c2, c3, c4] 25)).alloc (.cells #[.int .i64 d.x, .int .i64 d.y, .int .i64 d.z] 27)) := by
  refine ⟨(Below.heap_alloc _ _ _ (by simp; omega)).trans ((Below.heap_alloc _ _ _ (by simp)).trans (heap_alloc_new _ _)), ?_, ?_, (((Below.refl _ _).alloc (Nat.le_refl _) _).alloc (by simp) _).alloc (by simp; omega) _⟩
  · have h := heap_alloc_new (w.alloc (.cells #[.string nm, .slice pl ln cl, .int .i64 hs.x, .int .i64 hs.y, .int .i64 hs.z, .int .i64 us.x, .int .i64 us.y, .int .i64 us.z] 30)) (.cells #[c0, c1, c2, c3, c4] 25)
    rw [World.size_alloc] at h
    exact (Below.heap_alloc _ _ _ (by simp)).trans h
  · have h := heap_alloc_new ((w.alloc (.cells #[.string nm, .slice pl ln cl, .int .i64 hs.x, .int .i64 hs.y, .int .i64 hs.z, .int .i64 us.x, .int .i64 us.y, .int .i64 us.z] 30)).alloc (.cells #[c0, c1, c2, c3, c4] 25)) (.cells #[.int .i64 d.x, .int .i64 d.y, .int .i64 d.z] 27)
    rw [World.size_alloc, World.size_alloc] at h
    exact h

set_option maxHeartbeats 4000000 in
set_option maxRecDepth 100000 in
theorem isFit_any (k : Int) (a b : ByteArray) (n : Int) (xs : List Tr) (p : Option Addr) (m cap : Nat) (hm : xs.length = m) (nm : ByteArray) (pl : Option Addr) (L : List (ByteArray × ByteArray)) (ln cl : Nat) (hln : L.length = ln) (hLi : (ln : Int) ≤ 9223372036854775807) (hs us d : N3) (w : World) (hv : liesT w (.mk k a b n xs) (.agg #[.int .i64 k, .string a, .string b, .int .i64 n, .slice p m cap])) (hL : Lbs w pl L) (hA : TabA w) (r : Bool) (hr : Hid (fiB (.mk k a b n xs) d ⟨nm, L, hs, us⟩ = r)) :
    Calls Tryd.prog 42 #[.agg #[.string nm, .slice pl ln cl, .int .i64 hs.x, .int .i64 hs.y, .int .i64 hs.z, .int .i64 us.x, .int .i64 us.y, .int .i64 us.z], .agg #[.int .i64 k, .string a, .string b, .int .i64 n, .slice p m cap], .agg #[.int .i64 d.x, .int .i64 d.y, .int .i64 d.z]] w fun e w' => e = .returned (.bool r) ∧ Below w.heap.size w w' := by
  obtain ⟨fh0, fx0, fn0, HB0⟩ := boxes_han w nm pl ln cl hs us d (.int .i64 k) (.string a) (.string b) (.int .i64 n) (.slice p m cap)
  obtain ⟨V, hV⟩ : ∃ V, hvH L hs (.mk k a b n xs) = V := ⟨_, rfl⟩
  obtain ⟨E, hE⟩ : ∃ E, lfE hs us d = E := ⟨_, rfl⟩
  obtain ⟨R, hR⟩ : ∃ R, lfR hs us d = R := ⟨_, rfl⟩
  have hho := fun w1 (h : Below w.heap.size w w1) => HoldsH_v k a b n xs p m cap hm nm pl L ln cl hln hLi hs us w1 (liesT_below _ _ hv h) (hL.below h) (hA.below h (Nat.le_refl _))
  have hle := fun w1 => left_any nm pl ln cl hs us d w1 R E hR hE
  have hr2 : (V && decide (E = 0)) = r := by rw [← hV, ← hE]; exact hr.out
  rw [hV] at hho
  generalize ckT (.mk k a b n xs) = C at *
  clear hV hE hR hv hL hA hm hln hLi hr
  cases V with
  | false =>
    obtain rfl : false = r := hr2
    go_enter Tryd.func42, Tryd.ntmps42
    go_wp2_with (first
      | (refine load_wanted rfl 25 _ rfl _ rfl _ _ _ _ (fx0) Tryd.underlying25 rfl (ask_info _ rfl) ?_)
      | (refine load_wanted rfl 30 _ rfl _ rfl _ _ _ _ (fh0) Tryd.underlying30 rfl (host_info _ rfl) ?_)
      | (go_at_call 29; refine (hho _ HB0).mono ?_; rintro e w3 ⟨rfl, hb3⟩; clear hho; have fh3 := (hb3.block _ (Array.getElem?_eq_some_iff.1 fh0).1).trans fh0; have fn3 := (hb3.block _ (Array.getElem?_eq_some_iff.1 fn0).1).trans fn0; have HB3 : Below w.heap.size w w3 := HB0.trans (hb3.mono HB0.size); clear fx0 fh0 fn0 HB0 hb3)
      | (refine load_wanted rfl 30 _ rfl _ rfl _ _ _ _ (fh3) Tryd.underlying30 rfl (host_info _ rfl) ?_)
      | (refine load_wanted rfl 27 _ rfl _ rfl _ _ _ _ (fn3) Tryd.underlying27 rfl (need_info _ rfl) ?_)
      | (go_at_call 37; refine (hle _).mono ?_; rintro e w4 ⟨rfl, hb4⟩; clear hle; have HB4 : Below w.heap.size w w4 := HB3.trans (hb4.mono HB3.size))
      | go_in)
    go_ret
    exact ⟨rfl, HB4.alloc HB4.size _⟩
  | true =>
    have hr3 : Hid (decide (E = 0) = r) := hr2
    clear hr2
    go_enter Tryd.func42, Tryd.ntmps42
    go_wp2_with (first
      | (refine load_wanted rfl 25 _ rfl _ rfl _ _ _ _ (fx0) Tryd.underlying25 rfl (ask_info _ rfl) ?_)
      | (refine load_wanted rfl 30 _ rfl _ rfl _ _ _ _ (fh0) Tryd.underlying30 rfl (host_info _ rfl) ?_)
      | (go_at_call 29; refine (hho _ HB0).mono ?_; rintro e w3 ⟨rfl, hb3⟩; clear hho; have fh3 := (hb3.block _ (Array.getElem?_eq_some_iff.1 fh0).1).trans fh0; have fn3 := (hb3.block _ (Array.getElem?_eq_some_iff.1 fn0).1).trans fn0; have HB3 : Below w.heap.size w w3 := HB0.trans (hb3.mono HB0.size); clear fx0 fh0 fn0 HB0 hb3)
      | (refine load_wanted rfl 30 _ rfl _ rfl _ _ _ _ (fh3) Tryd.underlying30 rfl (host_info _ rfl) ?_)
      | (refine load_wanted rfl 27 _ rfl _ rfl _ _ _ _ (fn3) Tryd.underlying27 rfl (need_info _ rfl) ?_)
      | (go_at_call 37; refine (hle _).mono ?_; rintro e w4 ⟨rfl, hb4⟩; clear hle; have HB4 : Below w.heap.size w w4 := HB3.trans (hb4.mono HB3.size))
      | go_in)
    go_ret
    exact ⟨ret_bb (by rw [← hr3.out]; by_cases h : E = 0 <;> simp [h]), HB4.alloc HB4.size _⟩

set_option maxHeartbeats 1000000 in
set_option maxRecDepth 100000 in
theorem nCheck_any (d : N3) (w : World) : Calls Tryd.prog 41 #[.agg #[.int .i64 d.x, .int .i64 d.y, .int .i64 d.z]] w fun e w' => e = .returned (.int .i64 (ce (okN d))) ∧ Below w.heap.size w w' := by
  have hck := check_one (w.alloc (.cells #[.int .i64 d.x, .int .i64 d.y, .int .i64 d.z] 27)) d (w.heap.size + 1) (by simp)
  have hB : Below w.heap.size w (w.alloc (.cells #[.int .i64 d.x, .int .i64 d.y, .int .i64 d.z] 27)) := (Below.refl _ _).alloc (Nat.le_refl _) _
  have f0 := heap_alloc_new w (.cells #[.int .i64 d.x, .int .i64 d.y, .int .i64 d.z] 27)
  have hBH : Hid (Below w.heap.size w (w.alloc (.cells #[.int .i64 d.x, .int .i64 d.y, .int .i64 d.z] 27))) := hB
  clear hB
  go_enter Tryd.func41, Tryd.ntmps41
  go_wp2_with (first
    | (refine load_wanted rfl 27 _ rfl _ rfl _ _ _ _ (f0) Tryd.underlying27 rfl (need_info _ rfl) ?_)
    | (go_at_call 54; refine hck.mono ?_; rintro e w3 ⟨rfl, hb3⟩; clear hck)
    | go_in)
  go_ret
  exact ⟨rfl, hBH.out.trans (hb3.mono hBH.out.size)⟩
end Go.Proofs.YtelepamnlpebgabDoor
