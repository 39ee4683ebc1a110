/- host.Free; HostBest, walked. -/
import Derived.Test.YtelepamnlpebgabDoorHin
namespace Go.Proofs.YtelepamnlpebgabDoor
open Go.RowKit Go.Shelf Akm Ndm
set_option linter.unusedSectionVars false
set_option linter.unusedVariables false

def frE (h : Ht) : Int := if hcE [h] ≠ 0 then hcE [h] else sE h.hs h.us
def frR (h : Ht) : N3 := if hcE [h] ≠ 0 then nz else sR h.hs h.us
theorem results_Free {tmps : Array Value} {w : World} {g : Nat} {cs : Array Value} {v : Value} (hp : tmps.getD 2 undef = .pointer (some ⟨g, 0, none⟩)) (hg : w.heap[g]? = some (.cells cs 27 (0, 0))) (hcs : cs.size = 3) (h3 : tmps.getD 3 undef = v) : (results Tryd.f8 tmps).run Tryd.prog w = .ok (.tuple #[.agg cs, v]) w := by
  have hp' : tmps[2]?.getD undef = .pointer (some ⟨g, 0, none⟩) := by simpa using hp
  have h3' : tmps[3]?.getD undef = v := by simpa using h3
  simp [results, Tryd.results8, hp', h3', asAddr, run_loadVar_row w g 27 27 cs (0, 0) _ hg Tryd.underlying27 rfl (need_info _ hcs)]
theorem hsts_one (w : World) (h : Ht) (pl : Option Addr) (ln cl : Nat) (hln : h.L.length = ln) (hlb : Lbs w pl h.L) (hlm : (h.L.length : Int) ≤ 9223372036854775807 ∧ h.L.length ≤ cl) (nm : ByteArray) (hs us : N3) (e1 : h.nm = nm) (e2 : h.hs = hs) (e3 : h.us = us) : Hsts (w.alloc (.cells #[.string nm, .slice pl ln cl, .int .i64 hs.x, .int .i64 hs.y, .int .i64 hs.z, .int .i64 us.x, .int .i64 us.y, .int .i64 us.z] 30)) (some ⟨w.heap.size, 0, none⟩) [h] := by
  refine Or.inr ⟨w.heap.size, 0, rfl, by simp, fun j x hj => ?_⟩
  have hj0 : j = 0 := by
    have := (List.getElem?_eq_some_iff.1 hj).1
    simp at this
    exact this
  subst hj0
  obtain rfl : h = x := by simpa using hj
  subst hln e1 e2 e3
  have g := heap_alloc_new w (.cells #[.string h.nm, .slice pl h.L.length cl, .int .i64 h.hs.x, .int .i64 h.hs.y, .int .i64 h.hs.z, .int .i64 h.us.x, .int .i64 h.us.y, .int .i64 h.us.z] 30)
  refine ⟨pl, cl, ⟨⟨?_, ?_⟩, ⟨?_, ?_, ?_⟩, ⟨?_, ?_, ?_⟩⟩, hlb.below ((Below.refl _ _).alloc (Nat.le_refl _) _), hlm⟩
  · exact (cell_of_row _ _ 0 _ _ _ g).trans rfl
  · exact (cell_of_row _ _ 1 _ _ _ g).trans rfl
  · exact (cell_of_row _ _ 2 _ _ _ g).trans rfl
  · exact (cell_of_row _ _ 3 _ _ _ g).trans rfl
  · exact (cell_of_row _ _ 4 _ _ _ g).trans rfl
  · exact (cell_of_row _ _ 5 _ _ _ g).trans rfl
  · exact (cell_of_row _ _ 6 _ _ _ g).trans rfl
  · exact (cell_of_row _ _ 7 _ _ _ g).trans rfl

set_option maxHeartbeats 4000000 in
set_option maxRecDepth 100000 in
theorem Free_any (h : Ht) (pl : Option Addr) (ln cl : Nat) (hln : h.L.length = ln) (hlm : (h.L.length : Int) ≤ 9223372036854775807 ∧ h.L.length ≤ cl) (w : World) (hX : TabX w) (hlb : Lbs w pl h.L) (nm : ByteArray) (hs us : N3) (e1 : h.nm = nm) (e2 : h.hs = hs) (e3 : h.us = us) (R : N3) (E : Int) (hR : frR h = R) (hE : frE h = E) :
    Calls Tryd.prog 8 #[.agg #[.string nm, .slice pl ln cl, .int .i64 hs.x, .int .i64 hs.y, .int .i64 hs.z, .int .i64 us.x, .int .i64 us.y, .int .i64 us.z]] w fun e w' => e = .returned (.tuple #[.agg #[.int .i64 R.x, .int .i64 R.y, .int .i64 R.z], .int .i64 E]) ∧ Below w.heap.size w w' := by
  have hB : Below w.heap.size w ((w.alloc (.cells #[.string nm, .slice pl ln cl, .int .i64 hs.x, .int .i64 hs.y, .int .i64 hs.z, .int .i64 us.x, .int .i64 us.y, .int .i64 us.z] 30)).alloc (.cells #[.int .i64 0, .int .i64 0, .int .i64 0] 27)) := ((Below.refl _ _).alloc (Nat.le_refl _) _).alloc (by simp) _
  have hsz : ((w.alloc (.cells #[.string nm, .slice pl ln cl, .int .i64 hs.x, .int .i64 hs.y, .int .i64 hs.z, .int .i64 us.x, .int .i64 us.y, .int .i64 us.z] 30)).alloc (.cells #[.int .i64 0, .int .i64 0, .int .i64 0] 27)).heap.size = w.heap.size + 2 := by simp
  have g0 : ((w.alloc (.cells #[.string nm, .slice pl ln cl, .int .i64 hs.x, .int .i64 hs.y, .int .i64 hs.z, .int .i64 us.x, .int .i64 us.y, .int .i64 us.z] 30)).alloc (.cells #[.int .i64 0, .int .i64 0, .int .i64 0] 27)).heap[w.heap.size]? = some (.cells #[.string nm, .slice pl ln cl, .int .i64 hs.x, .int .i64 hs.y, .int .i64 hs.z, .int .i64 us.x, .int .i64 us.y, .int .i64 us.z] 30 (0, 0)) := (Below.heap_alloc _ _ _ (by simp)).trans (heap_alloc_new _ _)
  have z0 : ((w.alloc (.cells #[.string nm, .slice pl ln cl, .int .i64 hs.x, .int .i64 hs.y, .int .i64 hs.z, .int .i64 us.x, .int .i64 us.y, .int .i64 us.z] 30)).alloc (.cells #[.int .i64 0, .int .i64 0, .int .i64 0] 27)).heap[w.heap.size + 1]? = some (.cells #[.int .i64 0, .int .i64 0, .int .i64 0] 27 (0, 0)) := by
    have h := heap_alloc_new (w.alloc (.cells #[.string nm, .slice pl ln cl, .int .i64 hs.x, .int .i64 hs.y, .int .i64 hs.z, .int .i64 us.x, .int .i64 us.y, .int .i64 us.z] 30)) (.cells #[.int .i64 0, .int .i64 0, .int .i64 0] 27)
    rw [World.size_alloc] at h
    exact h
  obtain ⟨C, hC⟩ : ∃ C, hcE [h] = C := ⟨_, rfl⟩
  have hst := hsts_one ((w.alloc (.cells #[.string nm, .slice pl ln cl, .int .i64 hs.x, .int .i64 hs.y, .int .i64 hs.z, .int .i64 us.x, .int .i64 us.y, .int .i64 us.z] 30)).alloc (.cells #[.int .i64 0, .int .i64 0, .int .i64 0] 27)) h pl ln cl hln (hlb.below hB) hlm nm hs us e1 e2 e3
  have hB2 := hB.alloc hB.size (.cells #[.string nm, .slice pl ln cl, .int .i64 hs.x, .int .i64 hs.y, .int .i64 hs.z, .int .i64 us.x, .int .i64 us.y, .int .i64 us.z] 30)
  have hck := hCheck_any (some ⟨((w.alloc (.cells #[.string nm, .slice pl ln cl, .int .i64 hs.x, .int .i64 hs.y, .int .i64 hs.z, .int .i64 us.x, .int .i64 us.y, .int .i64 us.z] 30)).alloc (.cells #[.int .i64 0, .int .i64 0, .int .i64 0] 27)).heap.size, 0, none⟩) [h] 1 1 rfl (Nat.le_refl _) _ (hX.below hB2 (Nat.le_refl _)) hst C hC
  rw [hsz] at hck
  unfold frR at hR
  unfold frE at hE
  rw [hC] at hR hE
  rw [e2, e3] at hR hE
  have hfr := fun w1 => free_any nm pl ln cl hs us w1 _ _ rfl rfl
  have g1 := (Below.heap_alloc _ (.cells #[.string nm, .slice pl ln cl, .int .i64 hs.x, .int .i64 hs.y, .int .i64 hs.z, .int .i64 us.x, .int .i64 us.y, .int .i64 us.z] 30) _ (Array.getElem?_eq_some_iff.1 g0).1).trans g0
  have z1 := (Below.heap_alloc _ (.cells #[.string nm, .slice pl ln cl, .int .i64 hs.x, .int .i64 hs.y, .int .i64 hs.z, .int .i64 us.x, .int .i64 us.y, .int .i64 us.z] 30) _ (Array.getElem?_eq_some_iff.1 z0).1).trans z0
  have hB2H : Hid (Below w.heap.size w _) := hB2
  clear hX hlb hlm hln e1 e2 e3 hC hst hB hsz hB2
  generalize sE hs us = E3 at *
  generalize sR hs us = R3 at *
  by_cases h0 : C = 0
  · subst h0
    rw [if_neg (by decide)] at hR hE
    subst hR hE
    go_enter Tryd.func8, Tryd.ntmps8
    go_wp2_with (first
      | (refine load_wanted rfl 30 _ rfl _ rfl _ _ _ _ (g0) Tryd.underlying30 rfl (host_info _ rfl) ?_)
      | (go_at_call 15; refine hck.mono ?_; rintro e w3 ⟨rfl, hb3⟩; clear hck; have HB3 : Below w.heap.size w w3 := hB2H.out.trans (hb3.mono hB2H.out.size); have g3 := (hb3.block _ (Array.getElem?_eq_some_iff.1 g1).1).trans g1; have z3 := (hb3.block _ (Array.getElem?_eq_some_iff.1 z1).1).trans z1; clear g0 z0 g1 z1 hb3)
      | (refine load_wanted rfl 30 _ rfl _ rfl _ _ _ _ (g3) Tryd.underlying30 rfl (host_info _ rfl) ?_)
      | (go_at_call 34; refine (hfr _).mono ?_; rintro e w4 ⟨rfl, hb4⟩; clear hfr; have HB4 : Below w.heap.size w w4 := HB3.trans (hb4.mono HB3.size); have z4 := (hb4.block _ (Array.getElem?_eq_some_iff.1 z3).1).trans z3; clear g3 z3 HB3 hb4)
      | (refine wpList_store_row rfl 27 _ _ rfl _ #[.int .i64 R3.x, .int .i64 R3.y, .int .i64 R3.z] rfl rfl _ _ (z4) (need_info _ rfl) rfl (need_one _ _ _) ?_)
      | go_in)
    refine bodyPost_ret (results_Free rfl (setRow_heap w4 (w.heap.size + 1) _ _ _ _ z4) rfl rfl) rfl ⟨rfl, below_row HB4 (by omega)⟩
  · rw [if_pos h0] at hR hE
    subst hR hE
    have hne : (C != 0) = true := by simpa using h0
    clear h0 hfr
    go_enter Tryd.func8, Tryd.ntmps8
    go_wp2_with (first
      | (refine load_wanted rfl 30 _ rfl _ rfl _ _ _ _ (g0) Tryd.underlying30 rfl (host_info _ rfl) ?_)
      | (go_at_call 15; refine hck.mono ?_; rintro e w3 ⟨rfl, hb3⟩; clear hck; have HB3 : Below w.heap.size w w3 := hB2H.out.trans (hb3.mono hB2H.out.size); have z3 := (hb3.block _ (Array.getElem?_eq_some_iff.1 z1).1).trans z1; clear g0 z0 g1 z1 hb3)
      | (refine wpList_store_row rfl 27 _ _ rfl _ #[.int .i64 nz.x, .int .i64 nz.y, .int .i64 nz.z] rfl rfl _ _ (z3) (need_info _ rfl) rfl (need_one _ _ _) ?_)
      | go_in)
    refine bodyPost_ret (results_Free rfl (setRow_heap w3 (w.heap.size + 1) _ _ _ _ z3) rfl rfl) rfl ⟨rfl, below_row HB3 (by omega)⟩

theorem ho_alone {pre : List Ht} {h : Ht} (e : hoE pre h = 0) : hoE [] h = 0 := by
  unfold hoE at e ⊢
  by_cases h1 : lbB h.nm.data.toList = false
  · rw [if_pos h1] at e; cases e
  · rw [if_neg h1] at e ⊢
    by_cases h2 : (pre.any fun y => kqB h.nm y.nm) = true
    · rw [if_pos h2] at e; cases e
    · rw [if_neg h2] at e
      rw [if_neg (by simp)]
      exact e
theorem hcG_mem : ∀ (l pre : List Ht), hcG pre l = 0 → ∀ h ∈ l, hoE [] h = 0
  | [], _, _, h, hm => by cases hm
  | x :: r, pre, e, h, hm => by
    rw [hcG] at e
    by_cases h1 : hoE pre x = 0
    · rw [if_neg (by simpa using h1)] at e
      rcases List.mem_cons.1 hm with e2 | e2
      · rw [e2]; exact ho_alone h1
      · exact hcG_mem r _ e h e2
    · rw [if_pos h1] at e
      exact absurd e h1
theorem hc_one {l : List Ht} (h0 : hcE l = 0) {h : Ht} (hm : h ∈ l) : hcE [h] = 0 ∧ sE h.hs h.us = 0 := by
  unfold hcE at h0
  by_cases h3 : 30 < l.length
  · rw [if_pos h3] at h0; cases h0
  · rw [if_neg h3] at h0
    have e := hcG_mem l [] h0 h hm
    constructor
    · unfold hcE
      rw [if_neg (by simp), hcG, if_neg (by simpa using e), hcG]
    · unfold hoE at e
      by_cases h1 : lbB h.nm.data.toList = false
      · rw [if_pos h1] at e; cases e
      · rw [if_neg h1, if_neg (by simp)] at e
        by_cases h2 : lblE h.L = 0
        · rw [if_neg (by simpa using h2)] at e; exact e
        · rw [if_pos h2] at e; exact absurd e h2
theorem sE_5 (a b : N3) : sE a b ≠ 5 := by
  unfold sE
  split
  · split <;> decide
  · decide
theorem clG_5 : ∀ (l pre : List (ByteArray × ByteArray)), clG pre l ≠ 5
  | [], _ => by rw [clG]; decide
  | x :: r, pre => by
    rw [clG]
    split
    · decide
    · split
      · decide
      · exact clG_5 r _
theorem hoE_5 (pre : List Ht) (h : Ht) : hoE pre h ≠ 5 := by
  unfold hoE
  split
  · decide
  · split
    · decide
    · split
      · unfold lblE
        split
        · decide
        · exact clG_5 _ _
      · exact sE_5 _ _
theorem hcG_5 : ∀ (l pre : List Ht), hcG pre l ≠ 5
  | [], _ => by rw [hcG]; decide
  | x :: r, pre => by
    rw [hcG]
    split
    · exact hoE_5 _ _
    · exact hcG_5 r _
theorem chT_5 (t : Tr) : chT t ≠ 5 := by
  unfold chT chE
  split
  · decide
  · split
    · decide
    · split
      · decide
      · split <;> decide
theorem ckL_5 : ∀ l : List Tr, ckL l ≠ 5
  | [] => by rw [ckL]; decide
  | x :: r => by
    rw [ckL]
    split
    · exact ckL_5 r
    · exact chT_5 x
theorem ftE_5 (l : List Ht) (t : Tr) (d : N3) : ftE l t d ≠ 5 := by
  unfold ftE
  split
  · unfold hcE
    split
    · decide
    · exact hcG_5 _ _
  · split
    · unfold ckT
      split
      · decide
      · exact ckL_5 _
    · unfold ce
      split <;> decide

/-- The least is the least. -/
theorem cmp_neg {x y : Int} : (cmpI x y < 0 ↔ x < y) ∧ (cmpI x y = 0 ↔ x = y) := by
  unfold cmpI
  constructor
  · split
    · simp [*]
    · split
      · constructor <;> intro h <;> omega
      · constructor <;> intro h <;> omega
  · split
    · constructor <;> intro h <;> omega
    · split
      · constructor <;> intro h <;> omega
      · constructor <;> intro h <;> omega
theorem lx_neg {x y : N3} : lx x y < 0 ↔ x.x < y.x ∨ (x.x = y.x ∧ (x.y < y.y ∨ (x.y = y.y ∧ x.z < y.z))) := by
  unfold lx or3
  have a := @cmp_neg x.x y.x
  have b := @cmp_neg x.y y.y
  have c := @cmp_neg x.z y.z
  by_cases h1 : cmpI x.x y.x = 0
  · rw [if_pos h1]
    have e1 := a.2.1 h1
    by_cases h2 : cmpI x.y y.y = 0
    · rw [if_pos h2]
      have e2 := b.2.1 h2
      rw [c.1]
      constructor
      · intro h; exact Or.inr ⟨e1, Or.inr ⟨e2, h⟩⟩
      · rintro (h | ⟨_, h | ⟨_, h⟩⟩)
        · omega
        · omega
        · exact h
    · rw [if_neg h2]
      have e2 : ¬ x.y = y.y := fun e => h2 (b.2.2 e)
      rw [b.1]
      constructor
      · intro h; exact Or.inr ⟨e1, Or.inl h⟩
      · rintro (h | ⟨_, h | ⟨h, _⟩⟩)
        · omega
        · exact h
        · exact absurd h e2
  · rw [if_neg h1]
    have e1 : ¬ x.x = y.x := fun e => h1 (a.2.2 e)
    rw [a.1]
    constructor
    · intro h; exact Or.inl h
    · rintro (h | ⟨h, _⟩)
      · exact h
      · exact absurd h e1
theorem mnG_spec (f : Nat → N3) : ∀ (F : List Nat) (m : Nat), (mnG f m F = m ∨ mnG f m F ∈ F) ∧ ¬ lx (f m) (f (mnG f m F)) < 0 ∧ ∀ i ∈ F, ¬ lx (f i) (f (mnG f m F)) < 0
  | [], m => by
    refine ⟨Or.inl rfl, ?_, fun i hi => by cases hi⟩
    rw [mnG, lx_neg]
    omega
  | x :: r, m => by
    rw [mnG]
    by_cases h : lx (f x) (f m) < 0
    · rw [if_pos h]
      obtain ⟨h1, h2, h3⟩ := mnG_spec f r x
      refine ⟨?_, ?_, ?_⟩
      · rcases h1 with h1 | h1
        · rw [h1]; simp
        · exact Or.inr (List.mem_cons_of_mem _ h1)
      · rw [lx_neg] at h h2 ⊢
        omega
      · intro i hi
        rcases List.mem_cons.1 hi with e | e
        · rw [e]; exact h2
        · exact h3 i e
    · rw [if_neg h]
      obtain ⟨h1, h2, h3⟩ := mnG_spec f r m
      refine ⟨?_, h2, ?_⟩
      · rcases h1 with h1 | h1
        · exact Or.inl h1
        · exact Or.inr (List.mem_cons_of_mem _ h1)
      · intro i hi
        rcases List.mem_cons.1 hi with e | e
        · rw [e]
          rw [lx_neg] at h h2 ⊢
          omega
        · exact h3 i e
/-- Of what fits, the best one leaves the least. -/
theorem best_least {l : List Ht} {t : Tr} {d : N3} (h0 : ftE l t d = 0) {m : Nat} {F : List Nat} (hL : ftL l t d = m :: F) : ∃ hk, l[mnG (lfA l d) m F]? = some hk ∧ mnG (lfA l d) m F ∈ ftL l t d ∧ ∀ (i : Nat) (hi : Ht), l[i]? = some hi → i ∈ ftL l t d → (sR hk.hs hk.us).x ≤ (sR hi.hs hi.us).x ∧ ((sR hk.hs hk.us).x < (sR hi.hs hi.us).x ∨ (sR hk.hs hk.us).y ≤ (sR hi.hs hi.us).y) := by
  obtain ⟨h1, h2, h3⟩ := mnG_spec (lfA l d) F m
  have hK : mnG (lfA l d) m F ∈ ftL l t d := by
    rw [hL]
    rcases h1 with h1 | h1
    · rw [h1]; simp
    · exact List.mem_cons_of_mem _ h1
  obtain ⟨hk, hkl, hkf⟩ := (ftL_mem h0).1 hK
  have fit : ∀ h : Ht, fiB t d h = true → lfR h.hs h.us d = subN (sR h.hs h.us) d := by
    intro h hf
    unfold fiB at hf
    simp only [Bool.and_eq_true, decide_eq_true_eq] at hf
    have hl := hf.2
    unfold lfE at hl
    unfold lfR
    by_cases e3 : sE h.hs h.us = 0
    · rw [if_neg (by simpa using e3)] at hl ⊢
      generalize sR h.hs h.us = R at *
      unfold sE at hl
      unfold sR
      by_cases e4 : (okN R && okN d) = true
      · rw [if_pos e4] at hl ⊢
        by_cases e5 : ftN d R = true
        · rw [if_pos e5]
        · rw [if_neg e5] at hl; cases hl
      · rw [if_neg e4] at hl; cases hl
    · rw [if_pos e3] at hl
      exact absurd hl e3
  refine ⟨hk, hkl, hK, fun i hi hil him => ?_⟩
  obtain ⟨hi2, hil2, hif⟩ := (ftL_mem h0).1 him
  rw [hil] at hil2
  obtain rfl := Option.some.inj hil2
  have hno : ¬ lx (lfA l d i) (lfA l d (mnG (lfA l d) m F)) < 0 := by
    rw [hL] at him
    rcases List.mem_cons.1 him with e | e
    · rw [e]; exact h2
    · exact h3 i e
  rw [lfA_at hil, lfA_at hkl, fit hi hif, fit hk hkf, lx_neg] at hno
  simp only [subN] at hno
  omega
end Go.Proofs.YtelepamnlpebgabDoor
