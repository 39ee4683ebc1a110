/- ask.isSo, Holds and its closure, walked. -/
import Derived.Test.YtelepamnlpebgabDoorAls
import Derived.Test.YtelepamnlpebgabDoorAkh
namespace Go.Proofs.YtelepamnlpebgabDoor
open Go.RowKit Go.Shelf Akm Ndm
set_option linter.unusedSectionVars false
set_option linter.unusedVariables false

/-- Whether an atom holds of a host. -/
def soT (L : List (ByteArray × ByteArray)) (hs : N3) (t : Tr) : Bool := if t.k = 3 then decide (t.n ≤ amV hs t.key.data.toList) else L.any fun x => lsB t.k t.key t.val x.1 x.2
theorem Amount_val (a : N3) (key : ByteArray) (w : World) (hM : TabM w) : Calls Tryd.prog 75 #[.agg #[.int .i64 a.x, .int .i64 a.y, .int .i64 a.z], .string key] w fun e w' => e = .returned (.tuple #[.int .i64 (amV a key.data.toList), .bool (amB key.data.toList)]) ∧ Below w.heap.size w w' := by
  have := Amount_any a key.data.toList w hM
  have e : (⟨key.data.toList.toArray⟩ : ByteArray) = key := by cases key; rfl
  rw [e] at this
  exact this

set_option maxHeartbeats 2000000 in
set_option maxRecDepth 100000 in
theorem so_any (k : Int) (key val : ByteArray) (n : Int) (p : Option Addr) (m cap : Nat) (nm : ByteArray) (pl : Option Addr) (L : List (ByteArray × ByteArray)) (ln cl : Nat) (hln : L.length = ln) (hLi : (ln : Int) ≤ 9223372036854775807) (hs us : N3) (w : World) (hL : Lbs w pl L) (hA : TabA w) (r0 : Bool) (hr0 : Hid ((if k = 3 then decide (n ≤ amV hs key.data.toList) else L.any fun x => lsB k key val x.1 x.2) = r0)) :
    Calls Tryd.prog 59 #[.agg #[.int .i64 k, .string key, .string val, .int .i64 n, .slice p m cap], .agg #[.string nm, .slice pl ln cl, .int .i64 hs.x, .int .i64 hs.y, .int .i64 hs.z, .int .i64 us.x, .int .i64 us.y, .int .i64 us.z]] w fun e w' => e = .returned (.bool r0) ∧ Below w.heap.size w w' := by
  have hB : Below w.heap.size w ((w.alloc (.cells #[.int .i64 k, .string key, .string val, .int .i64 n, .slice p m cap] 25)).alloc (.cells #[.string nm, .slice pl ln cl, .int .i64 hs.x, .int .i64 hs.y, .int .i64 hs.z, .int .i64 us.x, .int .i64 us.y, .int .i64 us.z] 30)) := ((Below.refl _ _).alloc (Nat.le_refl _) _).alloc (by simp) _
  have h1 : ((w.alloc (.cells #[.int .i64 k, .string key, .string val, .int .i64 n, .slice p m cap] 25)).alloc (.cells #[.string nm, .slice pl ln cl, .int .i64 hs.x, .int .i64 hs.y, .int .i64 hs.z, .int .i64 us.x, .int .i64 us.y, .int .i64 us.z] 30)).heap[w.heap.size]? = some (.cells #[.int .i64 k, .string key, .string val, .int .i64 n, .slice p m cap] 25 (0, 0)) := (Below.heap_alloc _ _ _ (by simp)).trans (heap_alloc_new _ _)
  have hA2 := hA.below hB (Nat.le_refl _)
  have hL2 := hL.below hB
  have hBH : Hid (Below w.heap.size w ((w.alloc (.cells #[.int .i64 k, .string key, .string val, .int .i64 n, .slice p m cap] 25)).alloc (.cells #[.string nm, .slice pl ln cl, .int .i64 hs.x, .int .i64 hs.y, .int .i64 hs.z, .int .i64 us.x, .int .i64 us.y, .int .i64 us.z] 30))) := hB
  by_cases h3 : k = 3
  · have hr1 : decide (n ≤ amV hs key.data.toList) = r0 := by have := hr0.out; rw [if_pos h3] at this; exact this
    have ham := Amount_val hs key _ hA2.1
    have hr1H : Hid (decide (n ≤ amV hs key.data.toList) = r0) := hr1
    subst h3
    generalize amV hs key.data.toList = am at *
    generalize amB key.data.toList = ab at *
    clear hr0 hr1 hA hA2 hL hL2 hln hLi hB
    go_enter Tryd.func59, Tryd.ntmps59
    go_wp2_with (first
      | (go_at_call 75; refine ham.mono ?_; rintro e w3 ⟨rfl, hb3⟩; clear ham; obtain ⟨z0, z1, z2, z3, z4⟩ := box5 ((hb3.block w.heap.size (by simp; omega)).trans h1))
      | go_in)
    go_ret
    exact ⟨ret_bb (by rw [← hr1H.out]), hBH.out.trans (hb3.mono hBH.out.size)⟩
  · have m3 : (k == 3) = false := by simpa using h3
    have hr1 : (L.any fun x => lsB k key val x.1 x.2) = r0 := by have := hr0.out; rw [if_neg h3] at this; exact this
    have hct := containsL_any k key val n p m cap w.heap.size pl L ln cl hln hLi _ h1 hL2 r0 hr1
    clear hr0 hr1 h3 hA hA2 hL hL2 hln hLi hB
    go_enter Tryd.func59, Tryd.ntmps59
    go_wp2_with (first
      | (go_at_call 76; refine hct.mono ?_; rintro e w3 ⟨rfl, hb3⟩; clear hct)
      | go_in)
    go_ret
    exact ⟨rfl, hBH.out.trans (hb3.mono hBH.out.size)⟩

theorem ckL_zero : ∀ {l : List Tr}, ckL l = 0 → ∀ x ∈ l, chT x = 0
  | y :: r, h, x, hx => by
    rw [ckL] at h
    by_cases e : chT y = 0
    · rw [if_pos e] at h
      rcases List.mem_cons.1 hx with e2 | e2
      · rw [e2]; exact e
      · exact ckL_zero h x e2
    · rw [if_neg e] at h
      exact absurd h e
theorem arT_of {t : Tr} (h : ckT t = 0) : arT t := by
  intro y hy
  unfold ckT at h
  by_cases h60 : 60 < szT t
  · rw [if_pos h60] at h
    cases h
  · rw [if_neg h60] at h
    have h1 := ckL_zero h y hy
    unfold chT chE at h1
    by_cases h2 : (!knK y.k || ((y.xs.length : Int) != inK y.k || hoB y.k y.key y.val y.n y.xs.length)) = true
    · rw [if_pos h2] at h1
      cases h1
    · have h3 : (y.xs.length : Int) = inK y.k := by
        by_cases e : (y.xs.length : Int) = inK y.k
        · exact e
        · exfalso
          apply h2
          simp [e]
      constructor
      · intro hk
        rw [hk] at h3
        have : inK 4 = 1 := rfl
        omega
      · intro hk
        have : inK y.k = 2 := if_pos hk
        omega

set_option maxHeartbeats 2000000 in
set_option maxRecDepth 100000 in
theorem clo_any (k : Int) (key val : ByteArray) (n : Int) (p : Option Addr) (m cap gh : Nat) (nm : ByteArray) (pl : Option Addr) (L : List (ByteArray × ByteArray)) (ln cl : Nat) (hln : L.length = ln) (hLi : (ln : Int) ≤ 9223372036854775807) (hs us : N3) (w : World) (hh : w.heap[gh]? = some (.cells #[.string nm, .slice pl ln cl, .int .i64 hs.x, .int .i64 hs.y, .int .i64 hs.z, .int .i64 us.x, .int .i64 us.y, .int .i64 us.z] 30 (0, 0))) (hL : Lbs w pl L) (hA : TabA w) (r0 : Bool) (hr0 : Hid ((if k = 3 then decide (n ≤ amV hs key.data.toList) else L.any fun x => lsB k key val x.1 x.2) = r0)) :
    Calls Tryd.prog 58 #[.agg #[.int .i64 k, .string key, .string val, .int .i64 n, .slice p m cap], .pointer (some ⟨gh, 0, none⟩)] w fun e w' => e = .returned (.bool r0) ∧ Below w.heap.size w w' := by
  have hbA : Below w.heap.size w (w.alloc (.cells #[.int .i64 k, .string key, .string val, .int .i64 n, .slice p m cap] 25)) := (Below.refl _ _).alloc (Nat.le_refl _) _
  have hbAH : Hid (Below w.heap.size w (w.alloc (.cells #[.int .i64 k, .string key, .string val, .int .i64 n, .slice p m cap] 25))) := hbA
  have h2 := (hbA.block gh (Array.getElem?_eq_some_iff.1 hh).1).trans hh
  have y0 := (cell_of_row _ _ 0 _ _ _ h2).trans rfl
  have y1 := (cell_of_row _ _ 1 _ _ _ h2).trans rfl
  have y2 := (cell_of_row _ _ 2 _ _ _ h2).trans rfl
  have y3 := (cell_of_row _ _ 3 _ _ _ h2).trans rfl
  have y4 := (cell_of_row _ _ 4 _ _ _ h2).trans rfl
  have y5 := (cell_of_row _ _ 5 _ _ _ h2).trans rfl
  have y6 := (cell_of_row _ _ 6 _ _ _ h2).trans rfl
  have y7 := (cell_of_row _ _ 7 _ _ _ h2).trans rfl
  have hso := so_any k key val n p m cap nm pl L ln cl hln hLi hs us _ (hL.below hbA) (hA.below hbA (Nat.le_refl _)) r0 hr0
  clear hbA h2 hh hL hA hr0 hln hLi
  go_enter Tryd.func58, Tryd.ntmps58
  go_wp2_with (first
    | (go_at_call 59; refine hso.mono ?_; rintro e w3 ⟨rfl, hb3⟩; clear hso)
    | go_in)
  go_ret
  exact ⟨rfl, hbAH.out.trans (hb3.mono hbAH.out.size)⟩

set_option maxHeartbeats 2000000 in
set_option maxRecDepth 100000 in
theorem Holds_any (k : Int) (key val : ByteArray) (n : Int) (xs : List Tr) (p : Option Addr) (m cap : Nat) (hm : xs.length = m) (nm : ByteArray) (pl : Option Addr) (L : List (ByteArray × ByteArray)) (ln cl : Nat) (hln : L.length = ln) (hLi : (ln : Int) ≤ 9223372036854775807) (hs us : N3) (w : World) (hv : liesT w (.mk k key val n xs) (.agg #[.int .i64 k, .string key, .string val, .int .i64 n, .slice p m cap])) (hL : Lbs w pl L) (hA : TabA w) (E : Int) (hE : ckT (.mk k key val n xs) = E) (V : Bool) (hV : Hid ((if E = 0 then hoT (soT L hs) (.mk k key val n xs) else false) = V)) :
    Calls Tryd.prog 29 #[.agg #[.int .i64 k, .string key, .string val, .int .i64 n, .slice p m cap], .agg #[.string nm, .slice pl ln cl, .int .i64 hs.x, .int .i64 hs.y, .int .i64 hs.z, .int .i64 us.x, .int .i64 us.y, .int .i64 us.z]] w fun e w' => e = .returned (.tuple #[.bool V, .int .i64 E]) ∧ Below w.heap.size w w' := by
  have hB : Below w.heap.size w ((w.alloc (.cells #[.int .i64 k, .string key, .string val, .int .i64 n, .slice p m cap] 25)).alloc (.cells #[.string nm, .slice pl ln cl, .int .i64 hs.x, .int .i64 hs.y, .int .i64 hs.z, .int .i64 us.x, .int .i64 us.y, .int .i64 us.z] 30)) := ((Below.refl _ _).alloc (Nat.le_refl _) _).alloc (by simp) _
  have hBH : Hid (Below w.heap.size w ((w.alloc (.cells #[.int .i64 k, .string key, .string val, .int .i64 n, .slice p m cap] 25)).alloc (.cells #[.string nm, .slice pl ln cl, .int .i64 hs.x, .int .i64 hs.y, .int .i64 hs.z, .int .i64 us.x, .int .i64 us.y, .int .i64 us.z] 30))) := hB
  have h1 : ((w.alloc (.cells #[.int .i64 k, .string key, .string val, .int .i64 n, .slice p m cap] 25)).alloc (.cells #[.string nm, .slice pl ln cl, .int .i64 hs.x, .int .i64 hs.y, .int .i64 hs.z, .int .i64 us.x, .int .i64 us.y, .int .i64 us.z] 30)).heap[w.heap.size]? = some (.cells #[.int .i64 k, .string key, .string val, .int .i64 n, .slice p m cap] 25 (0, 0)) := (Below.heap_alloc _ _ _ (by simp)).trans (heap_alloc_new _ _)
  have h2 : ((w.alloc (.cells #[.int .i64 k, .string key, .string val, .int .i64 n, .slice p m cap] 25)).alloc (.cells #[.string nm, .slice pl ln cl, .int .i64 hs.x, .int .i64 hs.y, .int .i64 hs.z, .int .i64 us.x, .int .i64 us.y, .int .i64 us.z] 30)).heap[w.heap.size + 1]? = some (.cells #[.string nm, .slice pl ln cl, .int .i64 hs.x, .int .i64 hs.y, .int .i64 hs.z, .int .i64 us.x, .int .i64 us.y, .int .i64 us.z] 30 (0, 0)) := by
    have h := heap_alloc_new (w.alloc (.cells #[.int .i64 k, .string key, .string val, .int .i64 n, .slice p m cap] 25)) (.cells #[.string nm, .slice pl ln cl, .int .i64 hs.x, .int .i64 hs.y, .int .i64 hs.z, .int .i64 us.x, .int .i64 us.y, .int .i64 us.z] 30)
    rw [World.size_alloc] at h
    exact h
  have hck := Check_any k key val n xs p m cap _ (liesT_below _ _ hv hB) hm (hA.below hB (Nat.le_refl _))
  rw [hE] at hck
  by_cases h0 : E = 0
  · subst h0
    have hhol : ∀ w3, Below ((w.alloc (.cells #[.int .i64 k, .string key, .string val, .int .i64 n, .slice p m cap] 25)).alloc (.cells #[.string nm, .slice pl ln cl, .int .i64 hs.x, .int .i64 hs.y, .int .i64 hs.z, .int .i64 us.x, .int .i64 us.y, .int .i64 us.z] 30)).heap.size ((w.alloc (.cells #[.int .i64 k, .string key, .string val, .int .i64 n, .slice p m cap] 25)).alloc (.cells #[.string nm, .slice pl ln cl, .int .i64 hs.x, .int .i64 hs.y, .int .i64 hs.z, .int .i64 us.x, .int .i64 us.y, .int .i64 us.z] 30)) w3 → Calls Tryd.prog 57 #[.agg #[.int .i64 k, .string key, .string val, .int .i64 n, .slice p m cap], .func (.func 58) #[] #[.pointer (some ⟨w.heap.size + 1, 0, none⟩)]] w3 fun e w' => e = .returned (.bool V) ∧ Below w3.heap.size w3 w' := by
      intro w3 hb3
      have hB3 : Below w.heap.size w w3 := hB.trans (hb3.mono hB.size)
      have hh3 := (hb3.block (w.heap.size + 1) (by simp)).trans h2
      have hin := holds_in w3 (soT L hs) (some ⟨w.heap.size + 1, 0, none⟩) (fun t v hl W hW => by
        obtain ⟨k2, a2, b2, n2, xs2⟩ := t
        rw [liesT] at hl
        obtain ⟨p2, cap2, rfl, _, _⟩ := hl
        exact clo_any k2 a2 b2 n2 p2 xs2.length cap2 (w.heap.size + 1) nm pl L ln cl hln hLi hs us W ((hW.block _ (Array.getElem?_eq_some_iff.1 hh3).1).trans hh3) ((hL.below hB3).below hW) ((hA.below hB3 (Nat.le_refl _)).below hW (Nat.le_refl _)) _ rfl) (.mk k key val n xs) _ (liesT_below _ _ hv hB3) (arT_of hE) w3 (Below.refl _ _)
      have hVe : hoT (soT L hs) (.mk k key val n xs) = V := hV.out
      rw [hVe] at hin
      exact hin
    clear hv hL hA hE hV hm hln hLi hB
    go_enter Tryd.func29, Tryd.ntmps29
    go_wp2_with (first
      | (go_at_call 40; refine hck.mono ?_; rintro e w3 ⟨rfl, hb3⟩; clear hck; obtain ⟨z0, z1, z2, z3, z4⟩ := box5 ((hb3.block w.heap.size (by simp; omega)).trans h1))
      | (go_at_call 57; refine (hhol _ hb3).mono ?_; rintro e w4 ⟨rfl, hb4⟩; clear hhol)
      | go_in)
    go_ret2
    exact ⟨rfl, hBH.out.trans ((hb3.mono hBH.out.size).trans (hb4.mono (Nat.le_trans hBH.out.size hb3.size)))⟩
  · obtain rfl : false = V := by have := hV.out; rw [if_neg h0] at this; exact this
    have hne : (E != 0) = true := by simpa using h0
    clear hv hL hA hE hV hm hln hLi hB h0 h1 h2
    go_enter Tryd.func29, Tryd.ntmps29
    go_wp2_with (first
      | (go_at_call 40; refine hck.mono ?_; rintro e w3 ⟨rfl, hb3⟩; clear hck)
      | go_in)
    go_ret2
    exact ⟨rfl, hBH.out.trans (hb3.mono hBH.out.size)⟩
end Go.Proofs.YtelepamnlpebgabDoor
