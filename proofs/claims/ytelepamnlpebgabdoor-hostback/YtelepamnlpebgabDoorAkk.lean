/- ask.Check, walked. -/
import Derived.Test.YtelepamnlpebgabDoorAkr
import Derived.Test.YtelepamnlpebgabDoorAkc
namespace Go.Proofs.YtelepamnlpebgabDoor
open Go.RowKit Go.Shelf Akm Ndm
set_option linter.unusedSectionVars false
set_option linter.unusedVariables false
attribute [local go_sem] Oper.semAt_some

def chT (t : Tr) : Int := chE t.k t.key t.val t.n t.xs.length
/-- The first thing that is wrong. -/
def ckL : List Tr → Int
  | [] => 0
  | x :: r => if chT x = 0 then ckL r else chT x
/-- What Check answers. -/
def ckT (t : Tr) : Int := if 60 < szT t then 2 else ckL (allT t)
theorem ckL_pre : ∀ (l r : List Tr), (∀ x ∈ l, chT x = 0) → ckL (l ++ r) = ckL r
  | [], r, _ => rfl
  | x :: l, r, h => by
    rw [List.cons_append, ckL, if_pos (h x (by simp))]
    exact ckL_pre l r (fun y hy => h y (by simp [hy]))
theorem results_check {tmps : Array Value} {w : World} {g : Nat} {v : Int} (hp : tmps.getD 2 undef = .pointer (some ⟨g, 0, none⟩)) (hc : w.cell? ⟨g, 0, none⟩ = some (.int .i64 v)) : (results Tryd.f40 tmps).run Tryd.prog w = .ok (.int .i64 v) w := by
  have hp' : tmps[2]?.getD undef = .pointer (some ⟨g, 0, none⟩) := by simpa using hp
  simp [results, Tryd.results40, hp', asAddr, go_sem, hc]

set_option maxHeartbeats 1000000 in
set_option maxRecDepth 100000 in
theorem Check_large (k : Int) (a b : ByteArray) (n : Int) (xs : List Tr) (p : Option Addr) (m cap : Nat) (w : World) (hv : liesT w (.mk k a b n xs) (.agg #[.int .i64 k, .string a, .string b, .int .i64 n, .slice p m cap])) (hm : xs.length = m) (h60 : 60 < szT (.mk k a b n xs)) : Calls Tryd.prog 40 #[.agg #[.int .i64 k, .string a, .string b, .int .i64 n, .slice p m cap]] w fun e w' => e = .returned (.int .i64 2) ∧ Below w.heap.size w w' := by
  have hB : Below w.heap.size w ((w.alloc (.cells #[.int .i64 k, .string a, .string b, .int .i64 n, .slice p m cap] 25)).alloc (.cells #[.int .i64 0] 31)) := ((Below.refl _ _).alloc (Nat.le_refl _) _).alloc (by simp) _
  have hlg := isLarge_any k a b n xs p m cap hm _ (liesT_below _ _ hv hB) _ rfl true (decide_eq_true h60)
  have h2 : ((w.alloc (.cells #[.int .i64 k, .string a, .string b, .int .i64 n, .slice p m cap] 25)).alloc (.cells #[.int .i64 0] 31)).heap[w.heap.size + 1]? = some (.cells #[.int .i64 0] 31 (0, 0)) := by
    have h := heap_alloc_new (w.alloc (.cells #[.int .i64 k, .string a, .string b, .int .i64 n, .slice p m cap] 25)) (.cells #[.int .i64 0] 31)
    rw [World.size_alloc] at h
    exact h
  have hBH : Hid (Below w.heap.size w ((w.alloc (.cells #[.int .i64 k, .string a, .string b, .int .i64 n, .slice p m cap] 25)).alloc (.cells #[.int .i64 0] 31))) := hB
  clear hv hm h60 hB
  go_enter Tryd.func40, Tryd.ntmps40
  go_wp2_with (first
    | (go_at_call 65; refine hlg.mono ?_; rintro e w3 ⟨rfl, hb3⟩; clear hlg; have g2 := (hb3.block (w.heap.size + 1) (by simp)).trans h2; have c2 : w3.cell? ⟨w.heap.size + 1, 0, none⟩ = some (.int .i64 0) := (cell_of_row _ _ 0 _ _ _ g2).trans rfl; have f2 : w3.frozen? ⟨w.heap.size + 1, 0, none⟩ = false := by simp [World.frozen?, g2])
    | go_in)
  refine bodyPost_ret (results_check rfl ((cell_of_row _ _ 0 _ _ _ (heap_setCell_same w3 (w.heap.size + 1) 0 _ _ (.int .i64 2) g2)).trans rfl)) rfl ⟨rfl, (hBH.out.trans (hb3.mono hBH.out.size)).setCell (by show w.heap.size ≤ w.heap.size + 1; omega) _⟩

set_option maxHeartbeats 2000000 in
set_option maxRecDepth 100000 in
theorem Check_run (k : Int) (a b : ByteArray) (n : Int) (xs : List Tr) (p : Option Addr) (m cap : Nat) (w : World) (hv : liesT w (.mk k a b n xs) (.agg #[.int .i64 k, .string a, .string b, .int .i64 n, .slice p m cap])) (hm : xs.length = m) (h60 : ¬ 60 < szT (.mk k a b n xs)) (hA : TabA w) (E : Int) (hE : Hid (ckL (allT (.mk k a b n xs)) = E)) : Calls Tryd.prog 40 #[.agg #[.int .i64 k, .string a, .string b, .int .i64 n, .slice p m cap]] w fun e w' => e = .returned (.int .i64 E) ∧ Below w.heap.size w w' := by
  have hB : Below w.heap.size w ((w.alloc (.cells #[.int .i64 k, .string a, .string b, .int .i64 n, .slice p m cap] 25)).alloc (.cells #[.int .i64 0] 31)) := ((Below.refl _ _).alloc (Nat.le_refl _) _).alloc (by simp) _
  have hlg := isLarge_any k a b n xs p m cap hm _ (liesT_below _ _ hv hB) _ rfl false (decide_eq_false h60)
  have h1 : ((w.alloc (.cells #[.int .i64 k, .string a, .string b, .int .i64 n, .slice p m cap] 25)).alloc (.cells #[.int .i64 0] 31)).heap[w.heap.size]? = some (.cells #[.int .i64 k, .string a, .string b, .int .i64 n, .slice p m cap] 25 (0, 0)) := (Below.heap_alloc _ _ _ (by simp)).trans (heap_alloc_new _ _)
  have h2 : ((w.alloc (.cells #[.int .i64 k, .string a, .string b, .int .i64 n, .slice p m cap] 25)).alloc (.cells #[.int .i64 0] 31)).heap[w.heap.size + 1]? = some (.cells #[.int .i64 0] 31 (0, 0)) := by
    have h := heap_alloc_new (w.alloc (.cells #[.int .i64 k, .string a, .string b, .int .i64 n, .slice p m cap] 25)) (.cells #[.int .i64 0] 31)
    rw [World.size_alloc] at h
    exact h
  have hs2 : ((w.alloc (.cells #[.int .i64 k, .string a, .string b, .int .i64 n, .slice p m cap] 25)).alloc (.cells #[.int .i64 0] 31)).heap.size = w.heap.size + 2 := by simp
  have hBH : Hid (Below w.heap.size w ((w.alloc (.cells #[.int .i64 k, .string a, .string b, .int .i64 n, .slice p m cap] 25)).alloc (.cells #[.int .i64 0] 31))) := hB
  have hvH : Hid (liesT w (.mk k a b n xs) (.agg #[.int .i64 k, .string a, .string b, .int .i64 n, .slice p m cap])) := hv
  have hAH : Hid (TabA w) := hA
  clear hv hm h60 hB hA
  refine (callsIn_wide (n := 5)).1 ?_
  refine callsIn_of_wp_marks Tryd.func40 rfl trivial ?_ rfl
  simp only [Tryd.ntmps40, List.size_toArray, List.length_cons, List.length_nil, Nat.reduceAdd, Nat.reduceSub, Array.replicate_succ, Array.replicate_zero, List.push_toArray, List.append_toArray, List.nil_append, List.cons_append]
  refine wpIn_wide.2 ?_
  go_wp2_with (first
    | (go_at_call 65; refine hlg.mono ?_; rintro e w3 ⟨rfl, hb3⟩; clear hlg; have g2 := (hb3.block (w.heap.size + 1) (by simp)).trans h2; have g1 := (hb3.block w.heap.size (by simp; omega)).trans h1; obtain ⟨z0, z1, z2, z3, z4⟩ := box5 g1; have hB3 : Below w.heap.size w w3 := hBH.out.trans (hb3.mono hBH.out.size); have hs3 : w.heap.size + 2 ≤ w3.heap.size := by (have := hb3.size; omega))
    | (go_at_call 66; refine (all_any _ _ _ _ _ _ _ _).mono ?_; rintro e w' ⟨rfl, rfl⟩)
    | go_in)
  have b2 : (w3.alloc (.cells #[.int .i64 k, .string a, .string b, .int .i64 n, .slice p m cap] 25)).heap[w.heap.size + 1]? = some (.cells #[.int .i64 0] 31 (0, 0)) := (Below.heap_alloc _ _ _ (by omega)).trans g2
  have b3 : (w3.alloc (.cells #[.int .i64 k, .string a, .string b, .int .i64 n, .slice p m cap] 25)).heap[w3.heap.size]? = some (.cells #[.int .i64 k, .string a, .string b, .int .i64 n, .slice p m cap] 25 (0, 0)) := heap_alloc_new _ _
  have hB4 : Below w.heap.size w (w3.alloc (.cells #[.int .i64 k, .string a, .string b, .int .i64 n, .slice p m cap] 25)) := hB3.alloc hB3.size _
  have s4 : (w3.alloc (.cells #[.int .i64 k, .string a, .string b, .int .i64 n, .slice p m cap] 25)).heap.size = w3.heap.size + 1 := by simp
  generalize w3.alloc (.cells #[.int .i64 k, .string a, .string b, .int .i64 n, .slice p m cap] 25) = w4 at *
  generalize w3.heap.size = B3 at *
  clear g1 g2 z0 z1 z2 z3 z4 hb3 hB3 h1 h2 hBH hs2
  refine (wpIn_wide (n := 5)).1 ?_
  refine wpIn_rangeFunc_ownH rfl (by omega) (gf := 80) (lb := #[.pointer (some ⟨B3, 0, none⟩)]) rfl trivial (enters_of Tryd.func80 (by kernel_rfl) rfl)
    (encs := fun x : Ak w => #[x.1.2]) (Kp := Kc fun q => q = w.heap.size + 1) (S := fun ys => ys.map (·.1.1) = allT (.mk k a b n xs)) (Sp := fun ys => ∃ zs, ys.map (·.1.1) ++ zs = allT (.mk k a b n xs)) (N := szT (.mk k a b n xs)) (w0 := w4)
    (fun l' J Jx W hW hJA _ hY h0 => all1_in w (.mk k a b n xs) _ hvH.out 4 l' _ _ (by omega) (Nat.le_refl _) _ (fun q hq h => by omega) J Jx (fun s X Y hs hb => hJA s X Y none hs ⟨hb.os, hb.tape, hb.output, hb.size, fun q hq _ => hb.block q hq⟩ (fun r hr => by cases hr)) hY W _ rfl ((hW.block _ (by rw [s4]; omega)).trans b3) h0 (Kc.below (hB4.trans (hW.mono hB4.size))) (fun q hq => by have := hW.size; omega))
    (fun h1 h2 => h1.trans h2) (fun W l o o' h1 h2 h3 h4 => ?kb) (Below.refl _ _) (fun _ => rfl)
    (fun pre W => (W.heap[w.heap.size + 1]? = some (.cells #[.int .i64 0] 31 (0, 0)) ∧ ∀ x ∈ pre, chT x.1.1 = 0) ∧ Below w.heap.size w W)
    (fun c pre W => (c = .ret ∧ ∃ (ys : List (Ak w)) (x : Ak w), pre = ys ++ [x] ∧ (∀ y ∈ ys, chT y.1.1 = 0) ∧ chT x.1.1 ≠ 0 ∧ W.heap[w.heap.size + 1]? = some (.cells #[.int .i64 (chT x.1.1)] 31 (0, 0))) ∧ Below w.heap.size w W) ?hI ?hIx ⟨⟨b2, fun x hx => by cases hx⟩, hB4⟩
    (fun x a' W => ∃ (g : Nat) (cs : Array Value), x.1.2 = .agg cs ∧ W.heap[g]? = some (.cells cs 25 (0, 0)) ∧ a' = { tmps := #[.agg #[.int .i64 k, .string a, .string b, .int .i64 n, .slice p m cap], .pointer (some ⟨w.heap.size, 0, none⟩), .pointer (some ⟨w.heap.size + 1, 0, none⟩), .pointer (some ⟨g, 0, none⟩), undef, .agg #[.int .i64 k, .string a, .string b, .int .i64 n, .slice p m cap], .bool false, .agg #[.int .i64 k, .string a, .string b, .int .i64 n, .slice p m cap], .func (.func 80) #[] #[.pointer (some ⟨B3, 0, none⟩)], x.1.2, undef, undef, undef, undef, undef], defers := [] }) ?hAx
    ?assign ?body ?done ?stop
  case kb =>
    refine ⟨by simp, fun q ob hq ho hg => ?_⟩
    by_cases e : q = l
    · subst e
      rw [h2] at hq
      obtain rfl := Option.some.inj hq
      rw [h3] at ho
      cases ho
    · rw [World.putObj_heap_other e]
      exact hq
  case hI =>
    refine OwnFrom.and (fun s W W' row hs hg hr => ?_) (ownFrom_below (Nat.le_refl _) hB4.size)
    refine ⟨(hg.block _ (Array.getElem?_eq_some_iff.1 hs.1).1 (fun e => ?_)).trans hs.1, hs.2⟩
    have := (hr _ e.symm).1
    omega
  case hIx =>
    intro c
    refine OwnFrom.and (fun s W W' row hs hg hr => ?_) (ownFrom_below (Nat.le_refl _) hB4.size)
    obtain ⟨h0, ys, x, h1, h2, h3, h4⟩ := hs
    refine ⟨h0, ys, x, h1, h2, h3, (hg.block _ (Array.getElem?_eq_some_iff.1 h4).1 (fun e => ?_)).trans h4⟩
    have := (hr _ e.symm).1
    omega
  case hAx =>
    rintro x a' _ W W' row ⟨g, cs, e1, h1, e2⟩ hg hr
    refine ⟨g, cs, e1, (hg.block _ (Array.getElem?_eq_some_iff.1 h1).1 (fun e => ?_)).trans h1, e2⟩
    obtain ⟨_, o, ho, hc⟩ := hr _ e.symm
    rw [h1] at ho
    obtain rfl := Option.some.inj ho
    cases hc
  case assign =>
    rintro l pre ⟨⟨⟨k2, a2, b2', n2, xs2⟩, v2⟩, hx⟩ W K hI hK
    have hxx := hx
    rw [liesT] at hxx
    obtain ⟨p2, cap2, rfl, _, _⟩ := hxx
    have hbA : Below W.heap.size W (W.alloc (.cells #[.int .i64 k2, .string a2, .string b2', .int .i64 n2, .slice p2 xs2.length cap2] 25)) := (Below.refl _ _).alloc (Nat.le_refl _) _
    have hfin := hK { tmps := #[.agg #[.int .i64 k, .string a, .string b, .int .i64 n, .slice p m cap], .pointer (some ⟨w.heap.size, 0, none⟩), .pointer (some ⟨w.heap.size + 1, 0, none⟩), .pointer (some ⟨W.heap.size, 0, none⟩), undef, .agg #[.int .i64 k, .string a, .string b, .int .i64 n, .slice p m cap], .bool false, .agg #[.int .i64 k, .string a, .string b, .int .i64 n, .slice p m cap], .func (.func 80) #[] #[.pointer (some ⟨B3, 0, none⟩)], .agg #[.int .i64 k2, .string a2, .string b2', .int .i64 n2, .slice p2 xs2.length cap2], undef, undef, undef, undef, undef], defers := [] } (W.alloc (.cells #[.int .i64 k2, .string a2, .string b2', .int .i64 n2, .slice p2 xs2.length cap2] 25)) ⟨by simp, fun q o _ hq _ => (hbA.block q (Array.getElem?_eq_some_iff.1 hq).1).trans hq⟩ (Kc.below hbA) ⟨⟨(hbA.block _ (Array.getElem?_eq_some_iff.1 hI.1.1).1).trans hI.1.1, hI.1.2⟩, hI.2.alloc hI.2.size _⟩ ⟨W.heap.size, _, rfl, heap_alloc_new _ _, rfl⟩
    clear hK hI
    refine Eq.mpr (congrArg (fun ts => Code.wpIn _ _ _ _ _ ({ tmps := ts, defers := [] } : Act) W) (show _ = (#[.agg #[.int .i64 k, .string a, .string b, .int .i64 n, .slice p m cap], .pointer (some ⟨w.heap.size, 0, none⟩), .pointer (some ⟨w.heap.size + 1, 0, none⟩), undef, undef, .agg #[.int .i64 k, .string a, .string b, .int .i64 n, .slice p m cap], .bool false, .agg #[.int .i64 k, .string a, .string b, .int .i64 n, .slice p m cap], .func (.func 80) #[] #[.pointer (some ⟨B3, 0, none⟩)], .agg #[.int .i64 k2, .string a2, .string b2', .int .i64 n2, .slice p2 xs2.length cap2], undef, undef, undef, undef, undef] : Array Value) from by simp)) ?_
    gi_wp2
    exact hfin
  case body =>
    rintro l' pre ⟨⟨⟨k2, a2, b2', n2, xs2⟩, v2⟩, hx⟩ a' W hl' _ ⟨⟨h1, h2⟩, hBW⟩ ⟨g, cs, e1, h3, rfl⟩ hlen
    have hxx := hx
    rw [liesT] at hxx
    obtain ⟨p2, cap2, rfl, _, _⟩ := hxx
    obtain rfl := Value.agg.inj e1
    obtain ⟨z0, z1, z2, z3, z4⟩ := box5 h3
    have hal := alone_any k2 a2 b2' n2 p2 xs2.length cap2 W (hAH.out.below hBW (Nat.le_refl _))
    have hal2 := CallsIn.inRound l' ((callsIn_wide (n := 5 - 1 - 1 - 1)).2 hal)
    have hpr : Hid (∀ y ∈ pre, chT y.1.1 = 0) := h2
    have hBWH : Hid (Below w.heap.size w W) := hBW
    have h1H : Hid (W.heap[w.heap.size + 1]? = some (.cells #[.int .i64 0] 31 (0, 0))) := h1
    obtain ⟨E2, hE2⟩ : ∃ E2, chE k2 a2 b2' n2 xs2.length = E2 := ⟨_, rfl⟩
    have hEH : Hid (chE k2 a2 b2' n2 xs2.length = E2) := hE2
    rw [hE2] at hal2
    clear hal hE2 h1 h2 hBW hlen h3
    show Code.wpIn _ _ _ _ _ _ _
    gi_wp2_with fail
    refine ⟨trivial, hal2.mono ?_⟩
    rintro e w5 ⟨rfl, hb5⟩
    have g5 := (hb5.block _ (Array.getElem?_eq_some_iff.1 h1H.out).1).trans h1H.out
    have c5 : w5.cell? ⟨w.heap.size + 1, 0, none⟩ = some (.int .i64 0) := (cell_of_row _ _ 0 _ _ _ g5).trans rfl
    have f5 : w5.frozen? ⟨w.heap.size + 1, 0, none⟩ = false := by simp [World.frozen?, g5]
    have hB5 : Hid (Below w.heap.size w w5) := hBWH.out.trans (hb5.mono hBWH.out.size)
    have hb5H : Hid (Below W.heap.size W w5) := hb5
    clear hal2 z0 z1 z2 z3 z4 hb5
    by_cases h0 : E2 = 0
    · subst h0
      gi_wp2
      refine ⟨⟨hb5H.out.size, fun q o _ hq _ => (hb5H.out.block q (Array.getElem?_eq_some_iff.1 hq).1).trans hq⟩, Kc.below hb5H.out, ⟨g5, fun y hy => ?_⟩, hB5.out⟩
      rcases List.mem_append.1 hy with hy | hy
      · exact hpr.out y hy
      · obtain rfl := List.mem_singleton.1 hy
        exact hEH.out
    · have hne : (E2 != 0) = true := by simpa using h0
      have h0H : Hid (¬ E2 = 0) := h0
      clear h0
      gi_wp2
      refine ⟨⟨by simp [World.setCell]; exact hb5H.out.size, fun q o hq2 hq _ => ?_⟩, ⟨rfl, pre, _, rfl, hpr.out, ?_, ?_⟩, hB5.out.setCell (by show w.heap.size ≤ w.heap.size + 1; omega) _⟩
      · refine (Below.heap_setCell _ _ _ _ (by show q ≠ w.heap.size + 1; omega)).trans ((hb5H.out.block q (Array.getElem?_eq_some_iff.1 hq).1).trans hq)
      · show ¬ chE k2 a2 b2' n2 xs2.length = 0
        rw [hEH.out]
        exact h0H.out
      · show _ = some (Obj.cells #[.int .i64 (chE k2 a2 b2' n2 xs2.length)] _ _)
        rw [hEH.out]
        exact (heap_setCell_same w5 (w.heap.size + 1) 0 _ _ (.int .i64 E2) g5).trans rfl
  case done =>
    rintro D ys W hD hys ⟨⟨h1, h2⟩, hBW⟩ hK
    have c1 : W.cell? ⟨w.heap.size + 1, 0, none⟩ = some (.int .i64 0) := (cell_of_row _ _ 0 _ _ _ h1).trans rfl
    have f1 : W.frozen? ⟨w.heap.size + 1, 0, none⟩ = false := by simp [World.frozen?, h1]
    have hE0 : 0 = E := by
      rw [← hE.out, ← hys, ← List.append_nil (ys.map _), ckL_pre]
      · rfl
      · intro x hx
        obtain ⟨y, hy, rfl⟩ := List.mem_map.1 hx
        exact h2 y hy
    subst hE0
    go_wp2
    have hne : w.heap.size + 1 ≠ D := by omega
    have hK2 : (W.setCell ⟨w.heap.size + 1, 0, none⟩ (.int .i64 0)).heap[D]? = some (.deferred (some [])) := (Below.heap_setCell _ _ _ _ (by show D ≠ w.heap.size + 1; omega)).trans hK
    have h5 := heap_setCell_same W (w.heap.size + 1) 0 _ _ (.int .i64 0) h1
    refine ⟨by simp, .inl ⟨_, _, rfl, run_takeDeferred hK2, ?_⟩⟩
    exact ⟨_, results_check rfl (cell_putObj hne h5 rfl), rfl, (hBW.setCell (by show w.heap.size ≤ w.heap.size + 1; omega) _).trans (belowK_b (w := w) (Nat.le_refl _) _ D _ _ (by omega) hK2 rfl rfl)⟩
  case stop =>
    rintro D c pre W hD ⟨zs, hzs⟩ ⟨⟨rfl, ys, x, rfl, h1, h2, h3⟩, hBW⟩ hK
    have hE0 : chT x.1.1 = E := by
      rw [← hE.out, ← hzs, List.map_append, List.append_assoc, ckL_pre]
      · show chT x.1.1 = if chT x.1.1 = 0 then _ else chT x.1.1
        rw [if_neg h2]
      · intro t ht
        obtain ⟨y, hy, rfl⟩ := List.mem_map.1 ht
        exact h1 y hy
    subst hE0
    gi_wp2
    have hne : w.heap.size + 1 ≠ D := by omega
    refine ⟨by simp, .inl ⟨_, _, rfl, run_takeDeferred hK, ?_⟩⟩
    exact ⟨_, results_check rfl (cell_putObj hne h3 rfl), rfl, hBW.trans (belowK_b (w := w) (Nat.le_refl _) _ D _ _ (by omega) hK rfl rfl)⟩

/-- What Check answers. -/
theorem Check_any (k : Int) (a b : ByteArray) (n : Int) (xs : List Tr) (p : Option Addr) (m cap : Nat) (w : World) (hv : liesT w (.mk k a b n xs) (.agg #[.int .i64 k, .string a, .string b, .int .i64 n, .slice p m cap])) (hm : xs.length = m) (hA : TabA w) : Calls Tryd.prog 40 #[.agg #[.int .i64 k, .string a, .string b, .int .i64 n, .slice p m cap]] w fun e w' => e = .returned (.int .i64 (ckT (.mk k a b n xs))) ∧ Below w.heap.size w w' := by
  unfold ckT
  by_cases h60 : 60 < szT (.mk k a b n xs)
  · rw [if_pos h60]
    exact Check_large k a b n xs p m cap w hv hm h60
  · rw [if_neg h60]
    exact Check_run k a b n xs p m cap w hv hm h60 hA _ rfl
end Go.Proofs.YtelepamnlpebgabDoor
