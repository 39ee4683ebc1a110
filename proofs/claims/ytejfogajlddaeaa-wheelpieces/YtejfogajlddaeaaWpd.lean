/- WheelPieces, walked. -/
import Derived.Test.YtejfogajlddaeaaWpc
import Derived.OpenShut
namespace Go.Proofs.Ytejfogajlddaeaa
open Go.RowKit Go.Maps Go.Shelf Go.Lib Go.Sort Whm
set_option linter.unusedSectionVars false
variable [Inhabited Tm]
variable [Inhabited Ac]

set_option maxHeartbeats 2000000 in
set_option maxRecDepth 100000 in
theorem wheelPieces_none (w : World) (q : Option Addr) (l : List Ac) (cap : Nat) (a b : Int) (wb : (Lit.int .i64 b).wf = true) (hc : 100 < l.length ∨ a < 0 ∨ b < 0 ∨ 16777216 < a + b) :
    Calls Try.prog 5 #[.slice q l.length cap, .int .i64 a, .int .i64 b] w fun e w' => e = .returned (.bool true) ∧ Below w.heap.size w w' := by
  have hn := heap_alloc_new w (.cells #[.slice q l.length cap] 22)
  have hc0 : Hid ((w.alloc (.cells #[.slice q l.length cap] 22)).cell? ⟨w.heap.size, 0, none⟩ = some (.slice q l.length cap)) := (cell_of_row _ _ 0 _ _ _ hn).trans rfl
  have hb := bounds_i64 wb
  clear hn wb
  have fin : ∀ w1, Below (w.alloc (.cells #[.slice q l.length cap] 22)).heap.size (w.alloc (.cells #[.slice q l.length cap] 22)) w1 → Below w.heap.size w w1 := fun w1 h =>
    ((Below.refl _ _).alloc (Nat.le_refl _) _).trans (h.mono (by simp))
  by_cases h1 : (100 : Int) < (l.length : Int)
  · clear hc hb
    go_enter Try.func5, Try.ntmps5
    go_wp2_with (go_at_call 7; refine (wheels_any _).mono ?_; rintro e w1 ⟨rfl, hb1⟩; have hcx : w1.cell? ⟨w.heap.size, 0, none⟩ = some (.slice q l.length cap) := (hb1.cell (p := ⟨w.heap.size, 0, none⟩) (by simp)).trans hc0.out)
    go_ret
    exact ⟨rfl, fin _ hb1⟩
  by_cases h2 : a < 0
  · clear hc hb
    go_enter Try.func5, Try.ntmps5
    go_wp2_with (go_at_call 7; refine (wheels_any _).mono ?_; rintro e w1 ⟨rfl, hb1⟩; have hcx : w1.cell? ⟨w.heap.size, 0, none⟩ = some (.slice q l.length cap) := (hb1.cell (p := ⟨w.heap.size, 0, none⟩) (by simp)).trans hc0.out)
    go_ret
    exact ⟨rfl, fin _ hb1⟩
  by_cases h3 : b < 0
  · clear hc hb
    go_enter Try.func5, Try.ntmps5
    go_wp2_with (go_at_call 7; refine (wheels_any _).mono ?_; rintro e w1 ⟨rfl, hb1⟩; have hcx : w1.cell? ⟨w.heap.size, 0, none⟩ = some (.slice q l.length cap) := (hb1.cell (p := ⟨w.heap.size, 0, none⟩) (by simp)).trans hc0.out)
    go_ret
    exact ⟨rfl, fin _ hb1⟩
  have h4 : 16777216 - b < a := by omega
  have d4 : wrap64 (16777216 - b) = 16777216 - b := by unfold wrap64; omega
  clear hc
  go_enter Try.func5, Try.ntmps5
  go_wp2_with (go_at_call 7; refine (wheels_any _).mono ?_; rintro e w1 ⟨rfl, hb1⟩; have hcx : w1.cell? ⟨w.heap.size, 0, none⟩ = some (.slice q l.length cap) := (hb1.cell (p := ⟨w.heap.size, 0, none⟩) (by simp)).trans hc0.out)
  go_ret
  exact ⟨rfl, fin _ hb1⟩

set_option maxHeartbeats 2000000 in
set_option maxRecDepth 100000 in
theorem wheelPieces_some (w : World) (q : Option Addr) (l : List Ac) (cap : Nat) (a b : Int) (h : Acts w q l) (hl : l.length ≤ 100) (ha : 0 ≤ a) (hb : 0 ≤ b) (hab : a + b ≤ 16777216) :
    Calls Try.prog 5 #[.slice q l.length cap, .int .i64 a, .int .i64 b] w fun e w' => e = .returned (.bool true) ∧ Below w.heap.size w w' := by
  have hn := heap_alloc_new w (.cells #[.slice q l.length cap] 22)
  have hc0 : Hid ((w.alloc (.cells #[.slice q l.length cap] 22)).cell? ⟨w.heap.size, 0, none⟩ = some (.slice q l.length cap)) := (cell_of_row _ _ 0 _ _ _ hn).trans rfl
  have h0 := h.below ((Below.refl w.heap.size w).alloc (Nat.le_refl _) (.cells #[.slice q l.length cap] 22))
  have hw0 : Below w.heap.size w (w.alloc (.cells #[.slice q l.length cap] 22)) := (Below.refl _ _).alloc (Nat.le_refl _) _
  have hli : ¬ (100 : Int) < (l.length : Int) := by omega
  have d4 : wrap64 (16777216 - b) = 16777216 - b := by unfold wrap64; omega
  have d5 : wrap64 (a + b) = a + b := by unfold wrap64; omega
  have h4 : ¬ 16777216 - b < a := by omega
  have hwsz : w.heap.size < (w.alloc (.cells #[.slice q l.length cap] 22)).heap.size := by simp
  clear hn h
  go_enter Try.func5, Try.ntmps5
  go_wp2_with fail
  generalize w.alloc (.cells #[.slice q l.length cap] 22) = w0 at *
  refine (wheels_any _).mono ?_
  rintro e w1 ⟨rfl, hb1⟩
  have hcx : w1.cell? ⟨w.heap.size, 0, none⟩ = some (.slice q l.length cap) := (hb1.cell (p := ⟨w.heap.size, 0, none⟩) hwsz).trans hc0.out
  have hA1 := h0.below hb1
  have hB1 : Below w.heap.size w w1 := hw0.trans (hb1.mono hw0.size)
  have hcl : w.heap.size < w1.heap.size := Nat.lt_of_lt_of_le hwsz hb1.size
  clear h0 hb1 hc0 hw0
  go_wp2_with fail
  refine (made_any hcx hA1 hl).mono ?_
  rintro e w2 ⟨rfl, hV2, hO, hb2⟩
  have hcx2 : w2.cell? ⟨w.heap.size, 0, none⟩ = some (.slice q l.length cap) := (hb2.cell (p := ⟨w.heap.size, 0, none⟩) hcl).trans hcx
  have hA2 := hA1.below hb2
  have hB2 : Below w.heap.size w w2 := hB1.trans (hb2.mono hB1.size)
  have s12 := hV2.lt
  clear hcx hA1
  go_wp2_with fail
  refine (made_any hcx2 hA2 hl).mono ?_
  rintro e w3 ⟨rfl, hU3, _, hb3⟩
  have hV3 := hV2.below hb3 hV2.lt hV2.ltm
  have hB3 : Below w.heap.size w w3 := hB2.trans (hb3.mono hB2.size)
  have s23 := hU3.lt
  have hs1 := hB1.size
  clear hcx2 hA2 hV2 hb2 hb3
  generalize playS l = S at *
  generalize hpv : w1.heap.size + 1 = pv at *
  generalize hmv : w1.heap.size = mv at *
  generalize hpu : w2.heap.size + 1 = pu at *
  generalize hmu : w2.heap.size = mu at *
  have hd : Hid (w.heap.size ≤ pv ∧ w.heap.size ≤ mv ∧ w.heap.size ≤ pu ∧ w.heap.size ≤ mu ∧ pu ≠ pv ∧ pu ≠ mv ∧ mu ≠ pv ∧ mu ≠ mv ∧ pv < w3.heap.size ∧ mv < w3.heap.size ∧ pu < w3.heap.size ∧ mu < w3.heap.size) := by
    show _ ∧ _
    omega
  have hk : l.length ≤ 1000000 := by omega
  clear hpv hmv hpu hmu s12 s23 hs1 hcl
  have hadv1 := adv_ok2 (n := a) hV3 hO hk ha (by omega)
  have hO4 : Ok (l.length + 1) (advS S a) := hO.adv ha (by omega)
  have hsp := due_split (a := a) hO hb
  have hl1 := due_len hO a
  have hl2 := due_len hO4 b
  have hnow : (advS (advS S a) b).now = (advS S (a + b)).now := by simp [advS, Int.add_assoc]
  generalize hF1 : dueL S a = F1 at *
  go_wp2_with fail
  refine hadv1.mono ?_
  rintro e w4 ⟨p1, c1, rfl, r1, hV4, hK4⟩
  obtain ⟨d1, d2, d3, d4', d5', d6, d7, d8, d9, d10, d11, d12⟩ := hd.out
  have hU4 := hK4.other hU3 d5' d6 d7 d8
  have hB4 : Below w.heap.size w w4 := hB3.trans (hK4.below d1 d2 hB3.size)
  have hadv2 := adv_ok2 (n := b) hV4 hO4 (by omega) hb (by omega)
  have hs4 := hK4.size
  clear hadv1 hF1
  generalize hF2 : dueL (advS S a) b = F2 at *
  generalize hS2 : advS (advS S a) b = SV at *
  go_wp2_with fail
  refine hadv2.mono ?_
  rintro e w5 ⟨p2, c2, rfl, r2, hV5, hK5⟩
  have hU5 := hK5.other hU4 d5' d6 d7 d8
  have hB5 : Below w.heap.size w w5 := hB4.trans (hK5.below d1 d2 hB4.size)
  have r15 := row_kp r1 hK5 d9 d10
  have hp1 : Hid (∀ k, Value.ownBlock (.slice p1 F1.length c1) = some k → w3.heap.size ≤ k ∧ k < w4.heap.size) := r1.lt
  have hs5 := hK5.size
  have hadv3 := adv_ok2 (n := a + b) hU5 hO hk (by omega) hab
  rw [← hsp] at hadv3
  simp only [List.length_append, flatF_append] at hadv3
  clear hadv2 hF2 hS2 hsp r1
  generalize hS3 : advS S (a + b) = SU at *
  go_wp2_with fail
  refine hadv3.mono ?_
  rintro e w6 ⟨p3, c3, rfl, r3, hU6, hK6⟩
  have hV6 := hK6.other hV5 (Ne.symm d5') (Ne.symm d7) (Ne.symm d6) (Ne.symm d8)
  have hB6 : Below w.heap.size w w6 := hB5.trans (hK6.below d3 d4' hB5.size)
  have r16 := row_kp r15 hK6 d11 d12
  have r26 := row_kp r2 hK6 (by omega) (by omega)
  have hs6 := hK6.size
  clear hadv3 hS3 r15 r2
  go_wp2_with fail
  have r17 := r16.alloc (.cells #[.int .i64 0, .int .i64 0, .int .i64 0] 29)
  have r27 := r26.alloc (.cells #[.int .i64 0, .int .i64 0, .int .i64 0] 29)
  have r37 := r3.alloc (.cells #[.int .i64 0, .int .i64 0, .int .i64 0] 29)
  have hV7 := Whl_alloc hV6 (.cells #[.int .i64 0, .int .i64 0, .int .i64 0] 29)
  have hU7 := Whl_alloc hU6 (.cells #[.int .i64 0, .int .i64 0, .int .i64 0] 29)
  have hB7 : Below w.heap.size w (w6.alloc (.cells #[.int .i64 0, .int .i64 0, .int .i64 0] 29)) := hB6.alloc hB6.size _
  have hn7 := heap_alloc_new w6 (.cells #[.int .i64 0, .int .i64 0, .int .i64 0] 29)
  have hs7 : w6.heap.size ≤ (w6.alloc (.cells #[.int .i64 0, .int .i64 0, .int .i64 0] 29)).heap.size := by simp
  clear r16 r26 r3 hV6 hU6 hV5 hU5 hV4 hU4 hV3 hU3
  generalize w6.alloc (.cells #[.int .i64 0, .int .i64 0, .int .i64 0] 29) = w7 at *
  refine (good_any _ _ ((cell_of_row _ _ 0 _ _ _ hn7).trans rfl) ((cell_of_row _ _ 1 _ _ _ hn7).trans rfl) ((cell_of_row _ _ 2 _ _ _ hn7).trans rfl)).mono ?_
  rintro e w' ⟨rfl, hw'⟩
  rw [hw']
  clear hw' hn7
  go_wp2_with (at_builtin; refine wpList_append_rows rfl _ _ rfl rfl rfl r17 r27 (flatF_one _) (by omega) (by omega) ?_; intro p' c' w8 r8 hg8)
  have hg8' : w7.grownBy w8 (Value.ownBlock (.slice p1 F1.length c1)) := hg8
  have hs3 := hB3.size
  have r38 := r37.kept hg8' (by
    cases hv : Value.ownBlock (.slice p3 (F1.length + F2.length) c3) with
    | none => exact Or.inl rfl
    | some k =>
      right
      intro e
      have h1 := (r37.lt k hv).1
      have h2 := (hp1.out k e.symm).2
      omega)
  have hV8 := hV7.kept (hg8'.block pv hV7.lt (fun e => by have := (hp1.out pv e.symm).1; omega)) (hg8'.block mv hV7.ltm (fun e => by have := (hp1.out mv e.symm).1; omega))
  have hU8 := hU7.kept (hg8'.block pu hU7.lt (fun e => by have := (hp1.out pu e.symm).1; omega)) (hg8'.block mu hU7.ltm (fun e => by have := (hp1.out mu e.symm).1; omega))
  have hB8 : Below w.heap.size w w8 := hB7.grown hg8' hB7.size (fun k hk => by have := (hp1.out k hk).1; omega)
  have heq := equal_any (F := F1 ++ F2) (p1 := p') (c1 := c') (p2 := p3) (c2 := c3) (by simpa only [List.length_append, flatF_append] using r8) (by simpa only [List.length_append, flatF_append] using r38) (by rw [List.length_append]; omega)
  simp only [List.length_append] at heq
  clear r8 r38 r37 r17 r27 hV7 hU7 hg8 hg8'
  refine heq.mono ?_
  rintro e w9 ⟨rfl, hb9⟩
  have hV9 := hV8.below hb9 hV8.lt hV8.ltm
  have hU9 := hU8.below hb9 hU8.lt hU8.ltm
  clear heq
  go_wp2_with fail
  refine (now_any hV9).mono ?_
  rintro e w' ⟨rfl, hw'⟩
  rw [hw']
  clear hw' w'
  go_wp2_with fail
  refine (now_any hU9).mono ?_
  rintro e w' ⟨rfl, hw'⟩
  rw [hw']
  clear hw' w'
  go_wp2_with fail
  go_ret
  exact ⟨rfl, hB8.trans (hb9.mono hB8.size)⟩

theorem wheelPieces_walk (w : World) (q : Option Addr) (l : List Ac) (cap : Nat) (a b : Int) (h : Acts w q l) (_ : (Lit.int .i64 a).wf = true) (wb : (Lit.int .i64 b).wf = true) :
    Calls Try.prog 5 #[.slice q l.length cap, .int .i64 a, .int .i64 b] w fun e w' => e = .returned (.bool true) ∧ Below w.heap.size w w' := by
  by_cases hc : 100 < l.length ∨ a < 0 ∨ b < 0 ∨ 16777216 < a + b
  · exact wheelPieces_none w q l cap a b wb hc
  · exact wheelPieces_some w q l cap a b h (by omega) (by omega) (by omega) (by omega)
end Go.Proofs.Ytejfogajlddaeaa
