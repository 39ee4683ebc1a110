/- ask.all, isLarge: a range over all asks in one. -/
import Derived.Test.YtelepamnlpebgabDoorAki
namespace Go.Proofs.YtelepamnlpebgabDoor
open Go.RowKit Go.Shelf Akm
set_option linter.unusedSectionVars false
set_option linter.unusedVariables false
attribute [local go_sem] Oper.semAt_some

theorem all_any (c0 : Int) (c1 c2 : ByteArray) (c3 : Int) (p : Option Addr) (m cap : Nat) (w : World) : Calls Tryd.prog 66 #[.agg #[.int .i64 c0, .string c1, .string c2, .int .i64 c3, .slice p m cap]] w fun e w' => e = .returned (.func (.func 80) #[] #[.pointer (some ⟨w.heap.size, 0, none⟩)]) ∧ w' = w.alloc (.cells #[.int .i64 c0, .string c1, .string c2, .int .i64 c3, .slice p m cap] 25) := by
  go_enter Tryd.func66, Tryd.ntmps66
  go_wp2
  go_ret
  exact ⟨rfl, rfl⟩

set_option maxRecDepth 100000 in
set_option maxHeartbeats 1000000 in
theorem all1_in (w0 : World) (t : Tr) (v : Value) (hv : liesT w0 t v) (m l N Bs : Nat) (hm : 1 ≤ m) (hN : szT t ≤ N) (G : Nat → Prop) (hG0 : ∀ k, k < w0.heap.size → ¬ G k) (J Jx : List (Ak w0) → World → Prop) (hJa : ∀ s W W', J s W → Below W.heap.size W W' → J s W')
    (hY : ∀ pre (x : Ak w0) W, J pre W → pre.length < N → YieldAt Fence.wide (m - 1) Tryd.prog l #[x.1.2] W fun e W' => (e = .returned (.bool true) ∧ J (pre ++ [x]) W' ∧ Kc G W W') ∨ (e = .returned (.bool false) ∧ Jx (pre ++ [x]) W'))
    (W : World) (cs : Array Value) (hcs : v = .agg cs) (hBs : W.heap[Bs]? = some (.cells cs 25 (0, 0))) (h0 : J [] W) (hK : Kc G w0 W) (hG : ∀ k, G k → k < W.heap.size) :
    CallsIn Fence.wide m Tryd.prog 80 #[.func (.yield l) #[] #[], .pointer (some ⟨Bs, 0, none⟩)] W fun e W' => (∃ u, e = .returned u) ∧ ((∃ ys : List (Ak w0), ys.map (·.1.1) = allT t ∧ J ys W') ∨ (∃ pre : List (Ak w0), (∃ zs, pre.map (·.1.1) ++ zs = allT t) ∧ Jx pre W')) := by
  have hvi := visit_in w0 m l N hm G hG0 J Jx hJa hY t v hv [] W h0 hK hG (by simpa using hN)
  replace hvi : CallsIn Fence.wide (m - 1) Tryd.prog 81 _ _ _ := callsIn_wide.2 (callsIn_wide.1 hvi)
  cases t with
  | mk k a b n xs =>
    rw [liesT] at hv
    obtain ⟨p, cap, rfl, _, _⟩ := hv
    obtain rfl := Value.agg.inj hcs
    have z0 : W.cell? ⟨Bs, 0, none⟩ = some (.int .i64 k) := (cell_of_row _ _ 0 _ _ _ hBs).trans rfl
    have z1 : W.cell? ⟨Bs, 1, none⟩ = some (.string a) := (cell_of_row _ _ 1 _ _ _ hBs).trans rfl
    have z2 : W.cell? ⟨Bs, 2, none⟩ = some (.string b) := (cell_of_row _ _ 2 _ _ _ hBs).trans rfl
    have z3 : W.cell? ⟨Bs, 3, none⟩ = some (.int .i64 n) := (cell_of_row _ _ 3 _ _ _ hBs).trans rfl
    have z4 : W.cell? ⟨Bs, 4, none⟩ = some (.slice p xs.length cap) := (cell_of_row _ _ 4 _ _ _ hBs).trans rfl
    clear hY hJa hG0 h0 hK hG hBs hN
    refine callsIn_of_wp Tryd.func80 rfl trivial ?_ rfl
    simp only [Tryd.ntmps80, List.size_toArray, List.length_cons, List.length_nil, Nat.reduceAdd, Nat.reduceSub, Array.replicate_succ, Array.replicate_zero, List.push_toArray, List.append_toArray, List.nil_append, List.cons_append]
    gi_wp2_with fail
    refine ⟨trivial, hvi.mono ?_⟩
    rintro e w5 (⟨rfl, ⟨zs, hz1, hz2⟩, hk5⟩ | ⟨rfl, zs, hzr, hz⟩)
    · gi_wp2
      go_end0
      exact ⟨⟨_, rfl⟩, Or.inl ⟨zs, hz1, hz2⟩⟩
    · gi_wp2
      go_end0
      exact ⟨⟨_, rfl⟩, Or.inr ⟨zs, hzr, hz⟩⟩

theorem results_large {tmps : Array Value} {w : World} {g : Nat} {v : Bool} (hp : tmps.getD 2 undef = .pointer (some ⟨g, 0, none⟩)) (hc : w.cell? ⟨g, 0, none⟩ = some (.bool v)) : (results Tryd.f65 tmps).run Tryd.prog w = .ok (.bool v) w := by
  have hp' : tmps[2]?.getD undef = .pointer (some ⟨g, 0, none⟩) := by simpa using hp
  simp [results, Tryd.results65, hp', asAddr, go_sem, hc]
theorem cell_putObj {w : World} {D g : Nat} {o' : Obj} {cs : Array Value} {t : TypeId} {v : Value} (hne : g ≠ D) (hg : w.heap[g]? = some (.cells cs t (0, 0))) (hv : cs[0]? = some v) : (w.putObj D o').cell? ⟨g, 0, none⟩ = some v :=
  (cell_of_row _ _ 0 _ _ _ ((World.putObj_heap_other hne).trans hg)).trans hv

set_option maxHeartbeats 2000000 in
set_option maxRecDepth 100000 in
theorem isLarge_any (k : Int) (a b : ByteArray) (n : Int) (xs : List Tr) (p : Option Addr) (m cap : Nat) (hm : xs.length = m) (w : World) (hv : liesT w (.mk k a b n xs) (.agg #[.int .i64 k, .string a, .string b, .int .i64 n, .slice p m cap])) (S0 : Nat) (hS0 : Hid (szT (.mk k a b n xs) = S0)) (r : Bool) (hr : Hid (decide (60 < S0) = r)) : Calls Tryd.prog 65 #[.agg #[.int .i64 k, .string a, .string b, .int .i64 n, .slice p m cap]] w fun e w' => e = .returned (.bool r) ∧ Below w.heap.size w w' := by
  have hvH : Hid (liesT w (.mk k a b n xs) (.agg #[.int .i64 k, .string a, .string b, .int .i64 n, .slice p m cap])) := hv
  clear hv hm
  refine (callsIn_wide (n := 5)).1 ?_
  refine callsIn_of_wp_marks Tryd.func65 rfl trivial ?_ rfl
  simp only [Tryd.ntmps65, List.size_toArray, List.length_cons, List.length_nil, Nat.reduceAdd, Nat.reduceSub, Array.replicate_succ, Array.replicate_zero, List.push_toArray, List.append_toArray, List.nil_append, List.cons_append]
  refine wpIn_wide.2 ?_
  go_wp2_with (first
    | (go_at_call 66; refine (all_any _ _ _ _ _ _ _ _).mono ?_; rintro e w' ⟨rfl, rfl⟩)
    | go_in)
  have s3 : (((w.alloc (.cells #[.int .i64 k, .string a, .string b, .int .i64 n, .slice p m cap] 25)).alloc (.cells #[.bool false] 4)).alloc (.cells #[.int .i64 0] 3)).heap.size = w.heap.size + 1 + 1 + 1 := by simp
  have s4 : ((((w.alloc (.cells #[.int .i64 k, .string a, .string b, .int .i64 n, .slice p m cap] 25)).alloc (.cells #[.bool false] 4)).alloc (.cells #[.int .i64 0] 3)).alloc (.cells #[.int .i64 k, .string a, .string b, .int .i64 n, .slice p m cap] 25)).heap.size = w.heap.size + 4 := by simp
  have hB4 : Below w.heap.size w ((((w.alloc (.cells #[.int .i64 k, .string a, .string b, .int .i64 n, .slice p m cap] 25)).alloc (.cells #[.bool false] 4)).alloc (.cells #[.int .i64 0] 3)).alloc (.cells #[.int .i64 k, .string a, .string b, .int .i64 n, .slice p m cap] 25)) := ((((Below.refl _ _).alloc (Nat.le_refl _) _).alloc (by simp) _).alloc (by simp; omega) _).alloc (by simp; omega) _
  have b1 : ((((w.alloc (.cells #[.int .i64 k, .string a, .string b, .int .i64 n, .slice p m cap] 25)).alloc (.cells #[.bool false] 4)).alloc (.cells #[.int .i64 0] 3)).alloc (.cells #[.int .i64 k, .string a, .string b, .int .i64 n, .slice p m cap] 25)).heap[w.heap.size + 1]? = some (.cells #[.bool false] 4 (0, 0)) := by
    have h := heap_alloc_new (w.alloc (.cells #[.int .i64 k, .string a, .string b, .int .i64 n, .slice p m cap] 25)) (.cells #[.bool false] 4)
    rw [World.size_alloc] at h
    exact (Below.heap_alloc _ _ _ (by simp)).trans ((Below.heap_alloc _ _ _ (by simp)).trans h)
  have b2 : ((((w.alloc (.cells #[.int .i64 k, .string a, .string b, .int .i64 n, .slice p m cap] 25)).alloc (.cells #[.bool false] 4)).alloc (.cells #[.int .i64 0] 3)).alloc (.cells #[.int .i64 k, .string a, .string b, .int .i64 n, .slice p m cap] 25)).heap[w.heap.size + 1 + 1]? = some (.cells #[.int .i64 0] 3 (0, 0)) := by
    have h := heap_alloc_new ((w.alloc (.cells #[.int .i64 k, .string a, .string b, .int .i64 n, .slice p m cap] 25)).alloc (.cells #[.bool false] 4)) (.cells #[.int .i64 0] 3)
    rw [World.size_alloc, World.size_alloc] at h
    exact (Below.heap_alloc _ _ _ (by simp)).trans h
  have b3 : ((((w.alloc (.cells #[.int .i64 k, .string a, .string b, .int .i64 n, .slice p m cap] 25)).alloc (.cells #[.bool false] 4)).alloc (.cells #[.int .i64 0] 3)).alloc (.cells #[.int .i64 k, .string a, .string b, .int .i64 n, .slice p m cap] 25)).heap[w.heap.size + 1 + 1 + 1]? = some (.cells #[.int .i64 k, .string a, .string b, .int .i64 n, .slice p m cap] 25 (0, 0)) := by
    have h := heap_alloc_new (((w.alloc (.cells #[.int .i64 k, .string a, .string b, .int .i64 n, .slice p m cap] 25)).alloc (.cells #[.bool false] 4)).alloc (.cells #[.int .i64 0] 3)) (.cells #[.int .i64 k, .string a, .string b, .int .i64 n, .slice p m cap] 25)
    rw [s3] at h
    exact h
  generalize (((w.alloc (.cells #[.int .i64 k, .string a, .string b, .int .i64 n, .slice p m cap] 25)).alloc (.cells #[.bool false] 4)).alloc (.cells #[.int .i64 0] 3)).alloc (.cells #[.int .i64 k, .string a, .string b, .int .i64 n, .slice p m cap] 25) = w4 at *
  clear s3
  refine (wpIn_wide (n := 5)).1 ?_
  refine wpIn_rangeFunc_ownF rfl (by omega) (gf := 80) (lb := #[.pointer (some ⟨w.heap.size + 1 + 1 + 1, 0, none⟩)]) rfl trivial (enters_of Tryd.func80 (by kernel_rfl) rfl)
    (encs := fun x : Ak w => #[x.1.2]) (Kp := Kc fun q => q = w.heap.size + 1 ∨ q = w.heap.size + 1 + 1) (S := fun ys => ys.map (·.1.1) = allT (.mk k a b n xs)) (Sp := fun ys => ∃ zs, ys.map (·.1.1) ++ zs = allT (.mk k a b n xs)) (N := S0) (w0 := w4)
    (fun l' J Jx W hW hJA _ hY h0 => all1_in w (.mk k a b n xs) _ hvH.out 4 l' S0 _ (by omega) (Nat.le_of_eq hS0.out) _ (fun q hq h => by omega) J Jx (fun s X Y hs hb => hJA s X Y none hs ⟨hb.os, hb.tape, hb.output, hb.size, fun q hq _ => hb.block q hq⟩ (fun r hr => by cases hr)) hY W _ rfl ((hW.block _ (by rw [s4]; omega)).trans b3) h0 (Kc.below (hB4.trans (hW.mono hB4.size))) (fun q hq => by have := hW.size; omega))
    (fun h1 h2 => h1.trans h2) (fun W l o o' h1 h2 h3 h4 => ?kb) (Below.refl _ _) (fun _ => rfl)
    (fun pre W => (W.heap[w.heap.size + 1]? = some (.cells #[.bool false] 4 (0, 0)) ∧ W.heap[w.heap.size + 1 + 1]? = some (.cells #[.int .i64 (pre.length : Int)] 3 (0, 0)) ∧ pre.length ≤ 60) ∧ Below w.heap.size w W)
    (fun c pre W => (c = .ret ∧ W.heap[w.heap.size + 1]? = some (.cells #[.bool true] 4 (0, 0)) ∧ 60 < S0) ∧ Below w.heap.size w W) ?hI ?hIx ⟨⟨b1, b2, by simp⟩, hB4⟩
    (fun x => { tmps := #[.agg #[.int .i64 k, .string a, .string b, .int .i64 n, .slice p m cap], .pointer (some ⟨w.heap.size, 0, none⟩), .pointer (some ⟨w.heap.size + 1, 0, none⟩), .pointer (some ⟨w.heap.size + 1 + 1, 0, none⟩), .agg #[.int .i64 k, .string a, .string b, .int .i64 n, .slice p m cap], .func (.func 80) #[] #[.pointer (some ⟨w.heap.size + 1 + 1 + 1, 0, none⟩)], x.1.2, undef, undef, undef, undef], defers := [] })
    ?assign ?body ?done ?stop
  case kb =>
    refine ⟨by simp, fun q ob hq ho hg => ?_⟩
    by_cases e : q = l
    · subst e
      rw [h2] at hq
      obtain rfl := Option.some.inj hq
      rw [h3] at ho
      cases ho
    · rw [World.putObj_heap_other e]
      exact hq
  case hI =>
    refine OwnFrom.and (fun s W W' row hs hg hr => ?_) (ownFrom_below (Nat.le_refl _) hB4.size)
    obtain ⟨h1, h2, h3⟩ := hs
    refine ⟨(hg.block _ (Array.getElem?_eq_some_iff.1 h1).1 (fun e => ?_)).trans h1, (hg.block _ (Array.getElem?_eq_some_iff.1 h2).1 (fun e => ?_)).trans h2, h3⟩
    · have := (hr _ e.symm).1
      omega
    · have := (hr _ e.symm).1
      omega
  case hIx =>
    intro c
    refine OwnFrom.and (fun s W W' row hs hg hr => ?_) (ownFrom_below (Nat.le_refl _) hB4.size)
    obtain ⟨h0, h1, h2⟩ := hs
    refine ⟨h0, (hg.block _ (Array.getElem?_eq_some_iff.1 h1).1 (fun e => ?_)).trans h1, h2⟩
    have := (hr _ e.symm).1
    omega
  case assign =>
    intro l x W K hK
    gi_wp2
    simpa using hK
  case body =>
    rintro l' pre x W ⟨⟨h1, h2, h3⟩, hBW⟩ hlen
    have c1 : W.cell? ⟨w.heap.size + 1, 0, none⟩ = some (.bool false) := (cell_of_row _ _ 0 _ _ _ h1).trans rfl
    have c2 : W.cell? ⟨w.heap.size + 1 + 1, 0, none⟩ = some (.int .i64 (pre.length : Int)) := (cell_of_row _ _ 0 _ _ _ h2).trans rfl
    have f1 : W.frozen? ⟨w.heap.size + 1, 0, none⟩ = false := by simp [World.frozen?, h1]
    have f2 : W.frozen? ⟨w.heap.size + 1 + 1, 0, none⟩ = false := by simp [World.frozen?, h2]
    have h1H : Hid (W.heap[w.heap.size + 1]? = some (.cells #[.bool false] 4 (0, 0))) := h1
    have h2H : Hid (W.heap[w.heap.size + 1 + 1]? = some (.cells #[.int .i64 (pre.length : Int)] 3 (0, 0))) := h2
    have hBWH : Hid (Below w.heap.size w W) := hBW
    have hlH : Hid (pre.length < S0) := hlen
    clear hBW hlen h1 h2 b1 b2 b3 hB4 s4
    show Code.wpIn _ _ _ _ _ _ _
    by_cases h60 : pre.length < 60
    · have h61 : ¬ (60 : Int) < (pre.length : Int) + 1 := by omega
      gi_wp2
      refine ⟨KeepsOthers.setCell _ _ _, ⟨by simp [World.setCell], fun q ob hq ho hg => (Below.heap_setCell _ _ _ _ (fun e => hg (Or.inr e))).trans hq⟩, ⟨(Below.heap_setCell _ _ _ _ (by show w.heap.size + 1 ≠ w.heap.size + 1 + 1; omega)).trans h1H.out, ?_, by simp; omega⟩, hBWH.out.setCell (by show w.heap.size ≤ w.heap.size + 1 + 1; omega) _⟩
      have := heap_setCell_same W (w.heap.size + 1 + 1) 0 _ _ (.int .i64 ((pre.length : Int) + 1)) h2H.out
      rw [List.length_append]
      exact this.trans rfl
    · have h61 : (60 : Int) < (pre.length : Int) + 1 := by omega
      gi_wp2
      refine ⟨(KeepsOthers.setCell _ _ _).trans (KeepsOthers.setCell _ _ _), ⟨rfl, ?_, by have := hlH.out; omega⟩, (hBWH.out.setCell (by show w.heap.size ≤ w.heap.size + 1 + 1; omega) _).setCell (by show w.heap.size ≤ w.heap.size + 1; omega) _⟩
      have h5 := (Below.heap_setCell W (⟨w.heap.size + 1 + 1, 0, none⟩ : Addr) (.int .i64 ((pre.length : Int) + 1)) (w.heap.size + 1) (by show w.heap.size + 1 ≠ w.heap.size + 1 + 1; omega)).trans h1H.out
      have := heap_setCell_same _ (w.heap.size + 1) 0 _ _ (.bool true) h5
      exact this.trans rfl
  case done =>
    rintro D ys W hD hys ⟨⟨h1, h2, h3⟩, hBW⟩ hK
    have hS : ¬ 60 < S0 := by
      have e := congrArg List.length hys
      rw [List.length_map, allT_len, hS0.out] at e
      omega
    have c1 : W.cell? ⟨w.heap.size + 1, 0, none⟩ = some (.bool false) := (cell_of_row _ _ 0 _ _ _ h1).trans rfl
    have f1 : W.frozen? ⟨w.heap.size + 1, 0, none⟩ = false := by simp [World.frozen?, h1]
    obtain rfl : false = r := by rw [← hr.out]; exact (decide_eq_false hS).symm
    go_wp2
    have hne : w.heap.size + 1 ≠ D := by omega
    have hK2 : (W.setCell ⟨w.heap.size + 1, 0, none⟩ (.bool false)).heap[D]? = some (.deferred (some [])) := (Below.heap_setCell _ _ _ _ (by show D ≠ w.heap.size + 1; omega)).trans hK
    have h5 := heap_setCell_same W (w.heap.size + 1) 0 _ _ (.bool false) h1
    refine ⟨by simp, .inl ⟨_, _, rfl, run_takeDeferred hK2, ?_⟩⟩
    exact ⟨_, results_large rfl (cell_putObj hne h5 rfl), rfl, (hBW.setCell (by show w.heap.size ≤ w.heap.size + 1; omega) _).trans (belowK_b (w := w) (Nat.le_refl _) _ D _ _ (by omega) hK2 rfl rfl)⟩
  case stop =>
    rintro D c pre W hD _ ⟨⟨rfl, h1, h2⟩, hBW⟩ hK
    obtain rfl : true = r := by rw [← hr.out]; exact (decide_eq_true h2).symm
    gi_wp2
    have hne : w.heap.size + 1 ≠ D := by omega
    refine ⟨by simp, .inl ⟨_, _, rfl, run_takeDeferred hK, ?_⟩⟩
    exact ⟨_, results_large rfl (cell_putObj hne h1 rfl), rfl, hBW.trans (belowK_b (w := w) (Nat.le_refl _) _ D _ _ (by omega) hK rfl rfl)⟩
end Go.Proofs.YtelepamnlpebgabDoor
