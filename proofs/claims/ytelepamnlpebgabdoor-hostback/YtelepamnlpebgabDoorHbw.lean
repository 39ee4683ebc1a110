/- HostBack, walked. -/
import Derived.Test.YtelepamnlpebgabDoorHsm
import Derived.BigQuiet
namespace Go.Proofs.YtelepamnlpebgabDoor
open Go.RowKit Go.Shelf Go.Deep Akm Ndm
set_option linter.unusedSectionVars false
set_option linter.unusedVariables false

theorem good3K (w : World) (e g i : Int) : Calls Tryd.prog 28 #[.slice (some ⟨w.heap.size, 0, none⟩) 3 3] (w.alloc (.cells #[.int .i64 e, .int .i64 g, .int .i64 i] 31)) fun x w' => x = .returned (.bool (gdB [e, g, i])) ∧ w' = w.alloc (.cells #[.int .i64 e, .int .i64 g, .int .i64 i] 31) :=
  good_any (L := [e, g, i]) rfl (by
    intro j hj
    rcases (show j = 0 ∨ j = 1 ∨ j = 2 by omega) with rfl | rfl | rfl
    · exact (cell_of_row _ _ 0 _ _ _ (heap_alloc_new _ _)).trans rfl
    · exact (cell_of_row _ _ 1 _ _ _ (heap_alloc_new _ _)).trans rfl
    · exact (cell_of_row _ _ 2 _ _ _ (heap_alloc_new _ _)).trans rfl) (by omega)

set_option maxRecDepth 100000 in
theorem sl1_run (x y z : Tmp) (g o n c k : Nat) (hkc : (k : Int) + 1 ≤ (c : Int)) (w : World) (ev : Operand → Value) (oi : Oper) (ho : oi.op = .slice 22 (.tmp x) (some (.tmp y)) (some (.tmp z)) none) (e1 : ev (.tmp x) = .slice (some ⟨g, o, none⟩) n c) (e2 : ev (.tmp y) = .int .i64 k) (e3 : ev (.tmp z) = .int .i64 ((k : Int) + 1)) : (execOp ev oi).run Tryd.prog w = .ok (.value (.slice (some ⟨g, o + k * 8, none⟩) 1 (c - k))) w := by
  have hk1 : (k : Int) ≤ (k : Int) + 1 := by omega
  have hk0 : (0 : Int) ≤ (k : Int) := by omega
  have hck : ¬ c = k := by omega
  have htn : ((k : Int) + 1).toNat = k + 1 := by omega
  obtain ⟨d, op, ty, ps, af, gd⟩ := oi
  simp only at ho
  subst ho
  go_simp
set_option maxRecDepth 100000 in
theorem ad1_run (x : Tmp) (k : Nat) (hk : k ≤ 30) (w : World) (ev : Operand → Value) (oi : Oper) (ho : oi.op = .binOp .add 3 (.tmp x) (.const (.int .i64 1)) 3) (e2 : ev (.tmp x) = .int .i64 k) (e3 : ev (.const (.int .i64 1)) = .int .i64 1) : (execOp ev oi).run Tryd.prog w = .ok (.value (.int .i64 ((k : Int) + 1))) w := by
  have hwr : IntKind.i64.wrap ((k : Int) + 1) = (k : Int) + 1 := by rw [IntKind.wrap_i64]; omega
  obtain ⟨d, op, ty, ps, af, gd⟩ := oi
  simp only at ho
  subst ho
  go_simp

set_option maxHeartbeats 400000 in
set_option maxRecDepth 100000 in
/-- Where Take has an error. -/
theorem hostBack_bad (q : Option Addr) (nl c : Nat) (i : Int) (d : N3) (w : World) (hA : TabA w) (E : Int) (h0 : E ≠ 0) (htk : ∀ w1, Below w.heap.size w w1 → Calls Tryd.prog 11 #[.slice q nl c, .int .i64 i, .agg #[.int .i64 d.x, .int .i64 d.y, .int .i64 d.z]] w1 fun e w' => e = .returned (.tuple #[.slice none 0 0, .int .i64 E]) ∧ Below w1.heap.size w1 w') :
    Calls Tryd.prog 4 #[.slice q nl c, .int .i64 i, .agg #[.int .i64 d.x, .int .i64 d.y, .int .i64 d.z]] w fun e w' => e = .returned (.bool true) ∧ Below w.heap.size w w' := by
  have fa0 := heap_alloc_new w (.cells #[.int .i64 d.x, .int .i64 d.y, .int .i64 d.z] 27)
  have HB0 : Below w.heap.size w (w.alloc (.cells #[.int .i64 d.x, .int .i64 d.y, .int .i64 d.z] 27)) := (Below.refl _ _).alloc (Nat.le_refl _) _
  have hho := fun w1 (h : Below w.heap.size w w1) => hosts_any w1 (hA.below h (Nat.le_refl _))
  have hne : (E != 0) = true := by simpa using h0
  clear hA h0
  go_enter Tryd.func4, Tryd.ntmps4
  go_wp2_with (first
    | (go_at_call 25; refine (hho _ HB0).mono ?_; rintro e w1 ⟨rfl, hb1⟩; have fa1 := (hb1.block _ (Array.getElem?_eq_some_iff.1 fa0).1).trans fa0; have HB1 : Below w.heap.size w w1 := HB0.trans (hb1.mono HB0.size); clear hb1  HB0 fa0 hho)
    | (refine load_wanted rfl 27 _ rfl _ rfl _ _ _ _ (fa1) Tryd.underlying27 rfl (need_info _ rfl) ?_)
    | (go_at_call 11; refine (htk _ HB1).mono ?_; rintro e w2 ⟨rfl, hb2⟩; have fa2 := (hb2.block _ (Array.getElem?_eq_some_iff.1 fa1).1).trans fa1; have HB2 : Below w.heap.size w w2 := HB1.trans (hb2.mono HB1.size); clear hb2  HB1 fa1 htk)
    | go_in)
  go_ret
  exact ⟨by first | rfl | simp, HB2⟩

set_option maxHeartbeats 2000000 in
set_option maxRecDepth 100000 in
/-- Where it has none. -/
theorem hostBack_ok (l : List Ht) (q : Option Addr) (nl c : Nat) (hnl : l.length = nl) (hnc : nl ≤ c) (i : Nat) (x : Ht) (hx : l[i]? = some x) (d : N3) (w : World) (hA : TabA w) (hl : Hsts w q l) (h0 : hcE l = 0) (hE : lfE x.hs x.us d = 0) :
    Calls Tryd.prog 4 #[.slice q nl c, .int .i64 (i : Int), .agg #[.int .i64 d.x, .int .i64 d.y, .int .i64 d.z]] w fun e w' => e = .returned (.bool true) ∧ Below w.heap.size w w' := by
  have fa0 := heap_alloc_new w (.cells #[.int .i64 d.x, .int .i64 d.y, .int .i64 d.z] 27)
  have HB0 : Below w.heap.size w (w.alloc (.cells #[.int .i64 d.x, .int .i64 d.y, .int .i64 d.z] 27)) := (Below.refl _ _).alloc (Nat.le_refl _) _
  have hin : i < nl := by rw [← hnl]; exact (List.getElem?_eq_some_iff.1 hx).1
  have hn30 := hc_len h0
  have hho := fun w1 (h : Below w.heap.size w w1) => hosts_any w1 (hA.below h (Nat.le_refl _))
  obtain ⟨ck1, ck2⟩ := hc_one h0 (List.mem_of_getElem? hx)
  obtain ⟨ma, ms, mt, mu, mv, mw⟩ := take_math ck2 hE
  have htk : ∀ w1 (h : Below w.heap.size w w1), Calls Tryd.prog 11 #[.slice q nl c, .int .i64 (i : Int), .agg #[.int .i64 d.x, .int .i64 d.y, .int .i64 d.z]] w1 fun e w' => (∃ g, e = .returned (.tuple #[.slice (some ⟨g, 0, none⟩) nl nl, .int .i64 0]) ∧ Hsts w' (some ⟨g, 0, none⟩) (updU l i (aR x.us d))) ∧ Below w1.heap.size w1 w' := fun w1 h => (Take_run l q nl c hnl hnc i x hx d w1 (hA.2.below h (Nat.le_refl _)) (hl.below h) h0 0 hE).mono fun e w' ⟨h1, h2⟩ => ⟨(h1.resolve_left (fun e => e.1 rfl)).2, h2⟩
  have hmi := updU_at hx (aR x.us d)
  have hmo := fun k (h : k ≠ i) => updU_other hx (aR x.us d) h
  have hml : (updU l i (aR x.us d)).length = nl := by rw [updU_len, hnl]
  have hm0 : hcE (updU l i (aR x.us d)) = 0 := hcE_upd h0 hx ms
  have hmb := updU_back hx (aR x.us d)
  have hmck := (hc_one hm0 (List.mem_of_getElem? hmi)).1
  generalize updU l i (aR x.us d) = M at *
  have hgi : ∀ w1 g (h : Below w.heap.size w w1) (hm1 : Hsts w1 (some ⟨g, 0, none⟩) M), Calls Tryd.prog 12 #[.slice (some ⟨g, 0, none⟩) nl nl, .int .i64 (i : Int), .agg #[.int .i64 d.x, .int .i64 d.y, .int .i64 d.z]] w1 fun e w' => (∃ g', e = .returned (.tuple #[.slice (some ⟨g', 0, none⟩) nl nl, .int .i64 0]) ∧ Hsts w' (some ⟨g', 0, none⟩) l) ∧ Below w1.heap.size w1 w' := fun w1 g h hm1 => by
    have := Give_run M (some ⟨g, 0, none⟩) nl nl hml (Nat.le_refl _) i _ hmi d w1 (hA.2.below h (Nat.le_refl _)) hm1 hm0 mt
    simp only [mu] at this
    rw [hmb] at this
    exact this
  have hsm := fun w1 g' (h : Below w.heap.size w w1) (h1 : Hsts w1 (some ⟨g', 0, none⟩) l) => sameHosts_any l nl hnl (by omega) _ q nl c w1 h1 (hl.below h)
  have hck := fun w1 g (h : Below w.heap.size w w1) (h1 : Hsts w1 (some ⟨g, 0, none⟩) M) => hCheck_any (some ⟨g, 0, none⟩) M nl nl hml (Nat.le_refl _) w1 (hA.2.below h (Nat.le_refl _)) h1 0 hm0
  have hlH : Hid (Hsts w q l) := hl
  have hAH : Hid (TabA w) := hA
  have hxH : Hid (l[i]? = some x) := hx
  have hmiH : Hid (M[i]? = some _) := hmi
  have hmoH : Hid (∀ k, k ≠ i → M[k]? = l[k]?) := hmo
  have hnlH : Hid (l.length = nl) := hnl
  have hcks : Hid (hcE [x] = 0 ∧ sE x.hs x.us = 0 ∧ hcE [{ x with us := aR x.us d }] = 0 ∧ sE x.hs (aR x.us d) = 0) := ⟨ck1, ck2, hmck, ms⟩
  have hmvw : Hid (aE (sR x.hs (aR x.us d)) d = 0 ∧ aR (sR x.hs (aR x.us d)) d = sR x.hs x.us) := ⟨mv, mw⟩
  have hncH : Hid (nl ≤ c) := hnc
  have hn30H : Hid (nl ≤ 30) := by show nl ≤ 30; omega
  have hinH : Hid (i < nl) := hin
  have hi2 : (i : Int) < (nl : Int) := by omega
  have hi0 : ¬ (i : Int) < 0 := by omega
  have hn30i : (nl : Int) ≤ 30 := by omega
  clear hA hl hnl hnc h0 hE hn30 ck1 ck2 ma ms mt mu mv mw hmi hmo hml hm0 hmb hmck hx hin
  go_enter Tryd.func4, Tryd.ntmps4
  go_wp2_with (first
    | (go_at_call 25; refine (hho _ HB0).mono ?_; rintro e w1 ⟨rfl, hb1⟩; have fa1 := (hb1.block _ (Array.getElem?_eq_some_iff.1 fa0).1).trans fa0; have HB1 : Below w.heap.size w w1 := HB0.trans (hb1.mono HB0.size); clear hb1  HB0 fa0 hho)
    | (refine load_wanted rfl 27 _ rfl _ rfl _ _ _ _ (fa1) Tryd.underlying27 rfl (need_info _ rfl) ?_)
    | (go_at_call 11; refine (htk _ HB1).mono ?_; rintro e w2 ⟨⟨g, rfl, hm2⟩, hb2⟩; have fa2 := (hb2.block _ (Array.getElem?_eq_some_iff.1 fa1).1).trans fa1; have HB2 : Below w.heap.size w w2 := HB1.trans (hb2.mono HB1.size); clear hb2  HB1 fa1 htk)
    | (refine load_wanted rfl 27 _ rfl _ rfl _ _ _ _ (fa2) Tryd.underlying27 rfl (need_info _ rfl) ?_)
    | (go_at_call 12; refine (hgi _ g HB2 hm2).mono ?_; rintro e w3 ⟨⟨g', rfl, hn3⟩, hb3⟩; have fa3 := (hb3.block _ (Array.getElem?_eq_some_iff.1 fa2).1).trans fa2; have HB3 : Below w.heap.size w w3 := HB2.trans (hb3.mono HB2.size); have hm3 := hm2.below hb3; clear hb3  HB2 fa2 hgi hm2)
    | (go_at_call 26; refine (hsm _ g' HB3 hn3).mono ?_; rintro e w4 ⟨rfl, hb4⟩; have fa4 := (hb4.block _ (Array.getElem?_eq_some_iff.1 fa3).1).trans fa3; have HB4 : Below w.heap.size w w4 := HB3.trans (hb4.mono HB3.size); have hm4 := hm3.below hb4; clear hb4  HB3 fa3 hsm hn3 hm3)
    | (go_at_call 15; refine (hck _ g HB4 hm4).mono ?_; rintro e w5 ⟨rfl, hb5⟩; have fa5 := (hb5.block _ (Array.getElem?_eq_some_iff.1 fa4).1).trans fa4; have HB5 : Below w.heap.size w w5 := HB4.trans (hb5.mono HB4.size); have hm5 := hm4.below hb5; clear hb5  HB4 fa4 hck hm4))
  have HB5H : Hid (Below w.heap.size w w5) := HB5
  have fa5H : Hid (w5.heap[w.heap.size]? = some (.cells #[.int .i64 d.x, .int .i64 d.y, .int .i64 d.z] 27 (0, 0))) := fa5
  have hm5H : Hid (Hsts w5 (some ⟨g, 0, none⟩) M) := hm5
  clear HB5 fa5 hm5
  go_loopw [54] (fun iv wr => ∃ k : Nat, iv = .int .i64 k ∧ k ≤ nl ∧ Hid (Below w5.heap.size w5 wr)) (fun iv _ => nl - (intOf iv).toNat)
  case atStart => exact ⟨0, rfl, Nat.zero_le _, Below.refl _ _⟩
  case round =>
    obtain ⟨k, rfl, hk, hbl⟩ := hrel
    by_cases hkl : k < nl
    · have hlt : (k : Int) < (nl : Int) := by omega
      have hk30 := hn30H.out
      have hkn : Hid (k < nl) := hkl
      by_cases hki : k = i
      · subst hki
        clear hk hkl hk30
        go_wp2
        go_quiet (fail)
        go_wp2
        refine ⟨⟨k + 1, by first | rfl | simp, hkn.out, drewN_below hbl.out _⟩, ?_⟩
        have := hkn.out
        simp [intOf]
        omega
      · obtain ⟨y, hy⟩ : ∃ y, l[k]? = some y := ⟨l[k]'(by rw [hnlH.out]; exact hkl), List.getElem?_eq_getElem _⟩
        have hym : M[k]? = some y := (hmoH.out k hki).trans hy
        obtain ⟨g1, o1, pl1, cl1, rfl, hg1, _, _, _⟩ := host_at hlH.out hy
        have hne : ¬ (k : Int) = (i : Int) := by omega
        have hkc : (k : Int) + 1 ≤ (c : Int) := by have := hncH.out; omega
        have hkc2 : (k : Int) + 1 ≤ (nl : Int) := by omega
        have hk1 : (k : Int) ≤ (k : Int) + 1 := by omega
        have hk0 : (0 : Int) ≤ (k : Int) := by omega
        have hck : ¬ c = k := by omega
        have hck2 : ¬ nl = k := by omega
        have htn : ((k : Int) + 1).toNat = k + 1 := by omega
        have hwr : IntKind.i64.wrap ((k : Int) + 1) = (k : Int) + 1 := by rw [IntKind.wrap_i64]; omega
        have hkk : k ≤ 30 := by omega
        have hb1 := hbl.out.drew
        have hs1 := fun w' (h : Below wr.drew.heap.size wr.drew w') => (hlH.out.one hy).below ((HB5H.out.trans (hb1.mono HB5H.out.size)).trans (h.mono (Nat.le_trans HB5H.out.size hb1.size)))
        have hone := hm5H.out.one hym
        rw [Nat.zero_add] at hone
        have hs2 := fun w' (h : Below wr.drew.heap.size wr.drew w') => hone.below (hb1.trans (h.mono hb1.size))
        have hcall := fun w' (h : Below wr.drew.heap.size wr.drew w') => sameHosts_any [y] 1 rfl (by omega) _ _ (c - k) (nl - k) w' (hs1 w' h) (hs2 w' h)
        have hb1H : Hid (Below w5.heap.size w5 wr.drew) := hb1
        clear hk hkl hk30 hy hym hs1 hs2 hone hb1 hg1 hki
        go_wp2
        refine Tkc.region_anyC (C := fun w' => Below wr.drew.heap.size wr.drew w') (s := 17) (by kernel_rfl) ?_
        generalize wr.drew = wd at *
        have hcz : Below wd.heap.size wd wd := Below.refl _ _
        refine Tkc.takeC (i := 0) (v := .int .i64 (k : Int)) rfl (by kernel_rfl) (by kernel_rfl) (by kernel_rfl) (fun _ _ _ h => h) (by decide) (by kernel_rfl) (by kernel_rfl) hcz ⟨by kernel_rfl, fun wq hw => by go_simp⟩ ?_
        try go_frame
        refine Tkc.takeC (i := 1) (v := .int .i64 (i : Int)) rfl (by kernel_rfl) (by kernel_rfl) (by kernel_rfl) (fun _ _ _ h => h) (by decide) (by kernel_rfl) (by kernel_rfl) hcz ⟨by kernel_rfl, fun wq hw => by go_simp⟩ ?_
        try go_frame
        refine Tkc.takeC (i := 2) (v := .bool true) rfl (by kernel_rfl) (by kernel_rfl) (by kernel_rfl) (fun _ _ _ h => h) (by decide) (by kernel_rfl) (by kernel_rfl) hcz ⟨by kernel_rfl, fun wq hw => by go_simp⟩ ?_
        try go_frame
        refine Tkc.takeC (i := 3) (v := .bool true) rfl (by kernel_rfl) (by kernel_rfl) (by kernel_rfl) (fun _ _ _ h => h) (by decide) (by kernel_rfl) (by kernel_rfl) hcz ⟨by kernel_rfl, fun wq hw => by go_simp⟩ ?_
        try go_frame
        refine Tkc.takeC (i := 4) (v := .slice (some ⟨g1, o1, none⟩) nl c) rfl (by kernel_rfl) (by kernel_rfl) (by kernel_rfl) (fun _ _ _ h => h) (by decide) (by kernel_rfl) (by kernel_rfl) hcz ⟨by kernel_rfl, fun wq hw => by go_simp⟩ ?_
        try go_frame
        refine Tkc.takeC (i := 5) (v := .int .i64 (k : Int)) rfl (by kernel_rfl) (by kernel_rfl) (by kernel_rfl) (fun _ _ _ h => h) (by decide) (by kernel_rfl) (by kernel_rfl) hcz ⟨by kernel_rfl, fun wq hw => by go_simp⟩ ?_
        try go_frame
        refine Tkc.takeC (i := 6) (v := .int .i64 (k : Int)) rfl (by kernel_rfl) (by kernel_rfl) (by kernel_rfl) (fun _ _ _ h => h) (by decide) (by kernel_rfl) (by kernel_rfl) hcz ⟨by kernel_rfl, fun wq hw => by go_simp⟩ ?_
        try go_frame
        refine Tkc.takeC (i := 7) (v := .int .i64 ((k : Int) + 1)) rfl (by kernel_rfl) (by kernel_rfl) (by kernel_rfl) (fun _ _ _ h => h) (by decide) (by kernel_rfl) (by kernel_rfl) hcz ⟨by kernel_rfl, fun wq hw => ad1_run _ k hkk wq _ _ rfl (by kernel_rfl) (by kernel_rfl)⟩ ?_
        try go_frame
        refine Tkc.takeC (i := 8) (v := .slice (some ⟨g1, o1 + k * 8, none⟩) 1 (c - k)) rfl (by kernel_rfl) (by kernel_rfl) (by kernel_rfl) (fun _ _ _ h => h) (by decide) (by kernel_rfl) (by kernel_rfl) hcz ⟨by kernel_rfl, fun wq hw => sl1_run _ _ _ g1 o1 nl c k hkc wq _ _ rfl (by kernel_rfl) (by kernel_rfl) (by kernel_rfl)⟩ ?_
        try go_frame
        refine Tkc.takeC (i := 9) (v := .slice (some ⟨g, 0, none⟩) nl nl) rfl (by kernel_rfl) (by kernel_rfl) (by kernel_rfl) (fun _ _ _ h => h) (by decide) (by kernel_rfl) (by kernel_rfl) hcz ⟨by kernel_rfl, fun wq hw => by go_simp⟩ ?_
        try go_frame
        refine Tkc.takeC (i := 10) (v := .int .i64 (k : Int)) rfl (by kernel_rfl) (by kernel_rfl) (by kernel_rfl) (fun _ _ _ h => h) (by decide) (by kernel_rfl) (by kernel_rfl) hcz ⟨by kernel_rfl, fun wq hw => by go_simp⟩ ?_
        try go_frame
        refine Tkc.takeC (i := 11) (v := .int .i64 (k : Int)) rfl (by kernel_rfl) (by kernel_rfl) (by kernel_rfl) (fun _ _ _ h => h) (by decide) (by kernel_rfl) (by kernel_rfl) hcz ⟨by kernel_rfl, fun wq hw => by go_simp⟩ ?_
        try go_frame
        refine Tkc.takeC (i := 12) (v := .int .i64 ((k : Int) + 1)) rfl (by kernel_rfl) (by kernel_rfl) (by kernel_rfl) (fun _ _ _ h => h) (by decide) (by kernel_rfl) (by kernel_rfl) hcz ⟨by kernel_rfl, fun wq hw => ad1_run _ k hkk wq _ _ rfl (by kernel_rfl) (by kernel_rfl)⟩ ?_
        try go_frame
        refine Tkc.takeC (i := 13) (v := .slice (some ⟨g, k * 8, none⟩) 1 (nl - k)) rfl (by kernel_rfl) (by kernel_rfl) (by kernel_rfl) (fun _ _ _ h => h) (by decide) (by kernel_rfl) (by kernel_rfl) hcz ⟨by kernel_rfl, fun wq hw => (sl1_run _ _ _ g 0 nl nl k hkc2 wq _ _ rfl (by kernel_rfl) (by kernel_rfl) (by kernel_rfl)).trans (by rw [Nat.zero_add])⟩ ?_
        try go_frame
        refine Tkc.onlyC (i := 14) rfl (by kernel_rfl) (fun _ => hcz) (by kernel_rfl) (fun K hK => ?_)
        go_simp
        refine (hcall wd hcz).mono ?_
        rintro e w6 ⟨rfl, hb⟩
        have hcz6 : Below wd.heap.size wd w6 := hb
        clear hb hcall
        refine hK _ _ ?_
        clear hK K
        try go_frame
        refine Tkc.onlyC (i := 15) rfl (by kernel_rfl) (fun _ => hcz6) (by kernel_rfl) (fun K hK => ?_)
        go_simp
        refine hK _ _ ?_
        clear hK K
        try go_frame
        refine Tkc.onlyC (i := 16) rfl (by kernel_rfl) (fun _ => hcz6) (by kernel_rfl) (fun K hK => ?_)
        go_simp
        refine hK _ _ ?_
        clear hK K
        try go_frame
        refine Tkc.doneC (by kernel_rfl) (fun _ => hcz6) ?_
        have hb6 : Hid (Below w5.heap.size w5 w6) := hb1H.out.trans (hcz6.mono hb1H.out.size)
        clear hcz6 hcz
        go_wp2
        refine ⟨⟨k + 1, by first | rfl | simp, hkn.out, hb6⟩, ?_⟩
        have := hkn.out
        simp [intOf]
        omega
    · have hlt : ¬ (k : Int) < (nl : Int) := by omega
      have hWr : Below w.heap.size w wr := HB5H.out.trans (hbl.out.mono HB5H.out.size)
      have fa0 := (hbl.out.block _ (Array.getElem?_eq_some_iff.1 fa5H.out).1).trans fa5H.out
      obtain ⟨g1, o1, pl, cl, rfl, hg1, hx8, hxb, hxm⟩ := host_at (hlH.out.below hWr) hxH.out
      obtain ⟨g2, o2, pl2, cl2, e2, hg2, hy8, hyb, hym⟩ := host_at (hm5H.out.below hbl.out) hmiH.out
      simp only [Option.some.injEq, Addr.mk.injEq, and_true] at e2
      obtain ⟨rfl, rfl⟩ := e2
      obtain ⟨ck1, ck2, cm1, cm2⟩ := hcks.out
      obtain ⟨mv, mw⟩ := hmvw.out
      obtain ⟨nm, L, hs, us⟩ := x
      obtain ⟨ln, hln⟩ : ∃ m, L.length = m := ⟨_, rfl⟩
      simp only at ck1 ck2 cm1 cm2 mv mw hx8 hxb hxm hy8 hyb hym
      have hfl := fun w1 (h : Below wr.heap.size wr w1) => Free_any ⟨nm, L, hs, us⟩ pl ln cl hln hxm w1 (hAH.out.2.below (hWr.trans (h.mono hWr.size)) (Nat.le_refl _)) (hxb.below h) nm hs us rfl rfl rfl (sR hs us) 0 (by unfold frR; rw [if_neg (by simpa using ck1)]) (by unfold frE; rw [if_neg (by simpa using ck1), ck2])
      have hfm := fun w1 (h : Below wr.heap.size wr w1) => Free_any ⟨nm, L, hs, aR us d⟩ pl2 ln cl2 hln hym w1 (hAH.out.2.below (hWr.trans (h.mono hWr.size)) (Nat.le_refl _)) (hyb.below h) nm hs (aR us d) rfl rfl rfl (sR hs (aR us d)) 0 (by unfold frR; rw [if_neg (by simpa using cm1)]) (by unfold frE; rw [if_neg (by simpa using cm1), cm2])
      have had := fun w1 => Add_any (sR hs (aR us d)) d w1
      rw [mv, mw] at had
      have hxcH : Hid (∀ w1, Below wr.heap.size wr w1 → cell8 w1 g1 (o1 + i * 8) ⟨nm, L, hs, us⟩ pl cl) := fun w1 h => hx8.below h hg1
      have hmcH : Hid (∀ w1, Below wr.heap.size wr w1 → cell8 w1 g (i * 8) ⟨nm, L, hs, aR us d⟩ pl2 cl2) := fun w1 h => by
        have := hy8.below h hg2
        rwa [Nat.zero_add] at this
      have hlnH : Hid (L.length = ln) := hln
      have hWrH : Hid (Below w.heap.size w wr) := hWr
      clear hx8 hxb hxm hy8 hyb hym ck1 ck2 cm1 cm2 mv mw hcks hmvw hln hWr hg1 hg2 hxH hmiH hmoH hnlH hm5H hlH hAH HB5H fa5H hk
      generalize sR hs (aR us d) = Y at *
      generalize sR hs us = X at *
      generalize aR us d = V at *
      have HB0 : Below wr.heap.size wr wr := Below.refl _ _
      have hg0 : gdB [0, 0, 0] = true := rfl
      clear hbl
      obtain ⟨⟨u0, u1⟩, ⟨u2, u3, u4⟩, ⟨u5, u6, u7⟩⟩ := hxcH.out _ HB0
      simp only at u0 u1 u2 u3 u4 u5 u6 u7
      rw [hlnH.out] at u1
      go_wp2_with (first
        | (go_at_call 8; refine (hfl _ HB0).mono ?_; rintro e w1 ⟨rfl, hb1⟩; have fa1 := (Below.heap_alloc w1 (.cells #[.int .i64 X.x, .int .i64 X.y, .int .i64 X.z] 27) _ (Array.getElem?_eq_some_iff.1 ((hb1.block _ (Array.getElem?_eq_some_iff.1 fa0).1).trans fa0)).1).trans ((hb1.block _ (Array.getElem?_eq_some_iff.1 fa0).1).trans fa0); have fx1 := heap_alloc_new w1 (.cells #[.int .i64 X.x, .int .i64 X.y, .int .i64 X.z] 27); have HB1 : Below wr.heap.size wr (w1.alloc (.cells #[.int .i64 X.x, .int .i64 X.y, .int .i64 X.z] 27)) := (HB0.trans (hb1.mono HB0.size)).alloc (Nat.le_trans HB0.size hb1.size) _; clear hb1  HB0 fa0 hfl u0 u1 u2 u3 u4 u5 u6 u7; obtain ⟨⟨u0, u1⟩, ⟨u2, u3, u4⟩, ⟨u5, u6, u7⟩⟩ := hmcH.out _ HB1; simp only at u0 u1 u2 u3 u4 u5 u6 u7; rw [hlnH.out] at u1)
        | (go_at_call 8; refine (hfm _ HB1).mono ?_; rintro e w2 ⟨rfl, hb2⟩; have fa2 := (Below.heap_alloc w2 (.cells #[.int .i64 Y.x, .int .i64 Y.y, .int .i64 Y.z] 27) _ (Array.getElem?_eq_some_iff.1 ((hb2.block _ (Array.getElem?_eq_some_iff.1 fa1).1).trans fa1)).1).trans ((hb2.block _ (Array.getElem?_eq_some_iff.1 fa1).1).trans fa1); have fx2 := (Below.heap_alloc w2 (.cells #[.int .i64 Y.x, .int .i64 Y.y, .int .i64 Y.z] 27) _ (Array.getElem?_eq_some_iff.1 ((hb2.block _ (Array.getElem?_eq_some_iff.1 fx1).1).trans fx1)).1).trans ((hb2.block _ (Array.getElem?_eq_some_iff.1 fx1).1).trans fx1); have fy2 := heap_alloc_new w2 (.cells #[.int .i64 Y.x, .int .i64 Y.y, .int .i64 Y.z] 27); have HB2 : Below wr.heap.size wr (w2.alloc (.cells #[.int .i64 Y.x, .int .i64 Y.y, .int .i64 Y.z] 27)) := (HB1.trans (hb2.mono HB1.size)).alloc (Nat.le_trans HB1.size hb2.size) _; clear hb2  HB1 fa1 fx1 hfm u0 u1 u2 u3 u4 u5 u6 u7)
        | (refine load_wanted rfl 27 _ rfl _ rfl _ _ _ _ (fy2) Tryd.underlying27 rfl (need_info _ rfl) ?_)
        | (refine load_wanted rfl 27 _ rfl _ rfl _ _ _ _ (fa2) Tryd.underlying27 rfl (need_info _ rfl) ?_)
        | (go_at_call 27; refine (had _).mono ?_; rintro e w3 ⟨rfl, hb3⟩; have fx3 := (Below.heap_alloc w3 (.cells #[.int .i64 X.x, .int .i64 X.y, .int .i64 X.z] 27) _ (Array.getElem?_eq_some_iff.1 ((hb3.block _ (Array.getElem?_eq_some_iff.1 fx2).1).trans fx2)).1).trans ((hb3.block _ (Array.getElem?_eq_some_iff.1 fx2).1).trans fx2); have fz3 := heap_alloc_new w3 (.cells #[.int .i64 X.x, .int .i64 X.y, .int .i64 X.z] 27); have HB3 : Below wr.heap.size wr (w3.alloc (.cells #[.int .i64 X.x, .int .i64 X.y, .int .i64 X.z] 27)) := (HB2.trans (hb3.mono HB2.size)).alloc (Nat.le_trans HB2.size hb3.size) _; clear hb3  HB2 fa2 fx2 fy2 had))
      have hg2 := good3K (w3.alloc (.cells #[.int .i64 X.x, .int .i64 X.y, .int .i64 X.z] 27)) 0 0 0
      rw [World.size_alloc] at hg2
      refine hg2.mono ?_
      clear hg2
      rintro e w6 ⟨rfl, hb6⟩
      have hB6 : Below (w3.alloc (.cells #[.int .i64 X.x, .int .i64 X.y, .int .i64 X.z] 27)).heap.size (w3.alloc (.cells #[.int .i64 X.x, .int .i64 X.y, .int .i64 X.z] 27)) w6 := by rw [hb6]; exact (Below.refl _ _).alloc (Nat.le_refl _) _
      have HB6 : Below wr.heap.size wr w6 := HB3.trans (hB6.mono HB3.size)
      have fx6 := (hB6.block _ (Array.getElem?_eq_some_iff.1 fx3).1).trans fx3
      have fz6 := (hB6.block _ (Array.getElem?_eq_some_iff.1 fz3).1).trans fz3
      have HBW : Hid (Below w.heap.size w w6) := hWrH.out.trans (HB6.mono hWrH.out.size)
      rw [hg0]
      clear hb6 hB6 fx3 fz3 HB3 hg0 HB6
      go_wp2_with (first
        | (refine load_wanted rfl 27 _ rfl _ rfl _ _ _ _ (fx6) Tryd.underlying27 rfl (need_info _ rfl) ?_)
        | (refine load_wanted rfl 27 _ rfl _ rfl _ _ _ _ (fz6) Tryd.underlying27 rfl (need_info _ rfl) ?_)
        | go_in)
      go_ret
      exact ⟨by first | rfl | simp, HBW.out⟩

theorem hostBack_walk (q : Option Addr) (l : List Ht) (c : Nat) (i0 : Int) (d : N3) (w : World) (hA : TabA w) (hl : Hsts w q l) (hnc : l.length ≤ c) : Calls Tryd.prog 4 #[.slice q l.length c, .int .i64 i0, .agg #[.int .i64 d.x, .int .i64 d.y, .int .i64 d.z]] w fun e w' => e = .returned (.bool true) ∧ Below w.heap.size w w' := by
  by_cases he : coE l i0 = 0
  · have h0 : hcE l = 0 := by
      unfold coE at he
      by_cases h0 : hcE l = 0
      · exact h0
      · rw [if_pos h0] at he; exact absurd he h0
    unfold coE at he
    rw [if_neg (by simpa using h0)] at he
    by_cases hr : i0 < 0 ∨ (l.length : Int) ≤ i0
    · rw [if_pos hr] at he; cases he
    · obtain ⟨i, rfl⟩ := Int.eq_ofNat_of_zero_le (show 0 ≤ i0 by omega)
      obtain ⟨x, hx⟩ : ∃ x, l[i]? = some x := ⟨l[i]'(by omega), List.getElem?_eq_getElem _⟩
      by_cases hE : lfE x.hs x.us d = 0
      · exact hostBack_ok l q _ c rfl hnc i x hx d w hA hl h0 hE
      · exact hostBack_bad q _ c i d w hA _ hE fun w1 h => (Take_run l q _ c rfl hnc i x hx d w1 (hA.2.below h (Nat.le_refl _)) (hl.below h) h0 _ rfl).mono fun e w' ⟨h1, h2⟩ => ⟨(h1.resolve_right (fun e => hE e.1)).2, h2⟩
  · exact hostBack_bad q _ c i0 d w hA _ he fun w1 h => Take_bad1 l q _ c rfl hnc i0 d w1 (hA.2.below h (Nat.le_refl _)) (hl.below h) _ rfl he
end Go.Proofs.YtelepamnlpebgabDoor
