/- The reference of package pack: FewestBoxes. -/
import Derived.Test.YtfnkboegbclnaaaKrf
namespace Go.Proofs.Ytfnkboegbclnaaa
open Go.RowKit
set_option linter.unusedSectionVars false
set_option linter.unusedVariables false

theorem few_ex {size : Int} {l : List Int} : ∀ K, WayB size l K → ∃ r, r ≤ K ∧ FewB size l r := by
  intro K
  induction K using Nat.strongRecOn with
  | ind K ih =>
    intro h
    by_cases h2 : ∃ K', K' < K ∧ WayB size l K'
    · obtain ⟨K', h3, h4⟩ := h2
      obtain ⟨r, h5, h6⟩ := ih K' h3 h4
      exact ⟨r, by omega, h6⟩
    · refine ⟨K, Nat.le_refl _, h, fun K' h3 => ?_⟩
      by_cases h4 : K ≤ K'
      · exact h4
      · exact absurd ⟨K', by omega, h3⟩ h2
def vlN (L : List Int) : List Value := L.map fun x => .int .i64 x
theorem vlN_get {L : List Int} {j : Nat} (h : j < L.length) : (vlN L)[j]? = some (.int .i64 (nm L j)) := by simp [vlN, h, nm]
theorem nums_vlN {w : World} {B : Nat} {p : Option Addr} {L : List Int} {c : Nat} (h : w.ownsRow B 2 1 (.slice p L.length c) L.length (vlN L)) : Nums w p L := by
  by_cases e : L.length = 0
  · exact Or.inl e
  · right
    rcases h.2 with ⟨_, h0⟩ | ⟨g, cap, cur, hv, hB, _⟩
    · omega
    · obtain ⟨rfl, rfl⟩ : p = some ⟨g, 0, none⟩ ∧ c = cap := by simpa using hv
      exact ⟨g, 0, rfl, (h.lt g rfl).2, fun j hj => by rw [Nat.zero_add, h.cellAt j (by omega), vlN_get hj]⟩
theorem own_cap {w : World} {B : Nat} {e : TypeId} {k : Nat} {p : Option Addr} {n c : Nat} {xs : List Value} (h : w.ownsRow B e k (.slice p n c) n xs) : n ≤ c := by
  rcases h.2 with ⟨_, h0⟩ | ⟨g, cap, cur, hv, _, _, hc, _⟩
  · omega
  · obtain ⟨rfl, rfl⟩ : p = some ⟨g, 0, none⟩ ∧ c = cap := by simpa using hv
    exact hc

/-- The contract of FewestBoxes at rows of N things. -/
def FwC (size : Int) (N : Nat) : Prop := ∀ (w : World) (q : Option Addr) (c : Nat) (l : List Int), l.length = N → Nums w q l → l.length ≤ c → (∀ x ∈ l, 1 ≤ x ∧ x ≤ size) →
  Calls Try.prog 18 #[.slice q N c, .int .i64 size] w fun e w' => (∃ r : Nat, Hid (FewB size l r ∧ r ≤ N) ∧ e = .returned (.int .i64 (r : Int))) ∧ Below w.heap.size w w'

set_option maxRecDepth 100000 in
theorem few_nil (size : Int) : FwC size 0 := by
  intro w q c l hl _ _ _
  have e : l = [] := List.length_eq_zero_iff.1 hl
  subst e
  have hf : Hid (FewB size [] 0 ∧ 0 ≤ 0) := ⟨FewB.nil size, Nat.le_refl _⟩
  clear hl
  go_enter Try.func18, Try.ntmps18
  go_wp2
  go_ret
  exact ⟨⟨0, hf, rfl⟩, Below.refl _ _⟩

theorem wrap_1p {r : Nat} (h : r ≤ 100) : wrap64 (1 + (r : Int)) = ((r + 1 : Nat) : Int) := by unfold wrap64; omega
theorem min_wr {b r : Nat} (h : r ≤ 100) : min (b : Int) (wrap64 (1 + (r : Int))) = ((min b (r + 1) : Nat) : Int) := by
  rw [wrap_1p h]
  omega
theorem bit_div (s i : Nat) : (s : Int) / 2 ^ i % 2 = if s.testBit i = true then 1 else 0 := by
  have e : ((s : Int) / 2 ^ i % 2) = ((s / 2 ^ i % 2 : Nat) : Int) := by simp
  rw [e, Nat.testBit_eq_decide_div_mod_eq]
  by_cases h : s / 2 ^ i % 2 = 1
  · rw [h, if_pos (by simp)]; rfl
  · rw [if_neg (by simpa using h)]
    have : s / 2 ^ i % 2 = 0 := by omega
    rw [this]; rfl
theorem bit_tmod (s i : Nat) : ((s : Int) / 2 ^ i).tmod 2 = if s.testBit i = true then 1 else 0 := by
  rw [← bit_div]
  have e : ((s : Int) / 2 ^ i) = ((s / 2 ^ i : Nat) : Int) := by simp
  rw [e, Int.tmod_eq_emod_of_nonneg (Int.natCast_nonneg _)]
theorem sumR_app' (a b : List Int) : sumR (a ++ b) = sumR a + sumR b := by
  induction a with
  | nil => simp [sumR]
  | cons x r ih => simp only [List.cons_append, sumR, ih]; omega
theorem selL_bnd (t : List Int) (p : Nat → Bool) (size : Int) (hl : ∀ y ∈ t, 1 ≤ y ∧ y ≤ size) : ∀ i, i ≤ t.length → 0 ≤ sumR (selL p (t.take i)) ∧ sumR (selL p (t.take i)) ≤ (i : Int) * size := by
  intro i
  induction i with
  | zero => intro _; simp [selL, sumR]
  | succ i ih =>
    intro hi
    have h1 := ih (by omega)
    have h2 := hl _ (nm_mem (show i < t.length by omega))
    have e : ((i + 1 : Nat) : Int) * size = (i : Int) * size + size := by rw [Int.natCast_add, Int.add_mul]; simp
    rw [selL_take (by omega), sumR_app', e]
    split
    · simp only [sumR]; omega
    · simp only [sumR]; omega

set_option maxHeartbeats 4000000 in
set_option maxRecDepth 100000 in
theorem few_more {size : Int} {M : Nat} (hs : 1 ≤ size ∧ size ≤ 1099511627776) (hM : M + 1 ≤ 9) (ih : ∀ N', N' < M + 1 → FwC size N') (w : World) (gq oq c : Nat) (x : Int) (t : List Int) (ht : t.length = M) (hq : Nums w (some ⟨gq, oq, none⟩) (x :: t)) (hl : ∀ y ∈ x :: t, 1 ≤ y ∧ y ≤ size) (hc : 1 < c ∧ M + 1 ≤ c) (hr : Nums w (some ⟨gq, oq + 1, none⟩) t) :
    Calls Try.prog 18 #[.slice (some ⟨gq, oq, none⟩) (M + 1) c, .int .i64 size] w fun e w' => (∃ r : Nat, Hid (FewB size (x :: t) r ∧ r ≤ M + 1) ∧ e = .returned (.int .i64 (r : Int))) ∧ Below w.heap.size w w' := by
  have hsH : Hid (1 ≤ size ∧ size ≤ 1099511627776) := hs
  have hMH : Hid (M + 1 ≤ 9) := hM
  have ihH : Hid (∀ N', N' < M + 1 → FwC size N') := ih
  have htH : Hid (t.length = M) := ht
  have hqH : Hid (∀ w1, Below w.heap.size w w1 → w1.cell? ⟨gq, oq, none⟩ = some (.int .i64 x)) := fun w1 hb => by
    rcases hq.below hb (Nat.le_refl _) with h0 | ⟨b, o, e, hA⟩
    · simp at h0
    · cases e
      have := hA.c 0 (by simp)
      rwa [Nat.add_zero] at this
  have hrH : Hid (∀ w1, Below w.heap.size w w1 → Nums w1 (some ⟨gq, oq + 1, none⟩) t) := fun w1 hb => hr.below hb (Nat.le_refl _)
  have hlH : Hid (∀ y ∈ x :: t, 1 ≤ y ∧ y ≤ size) := hl
  have hM0 : ¬ ((M + 1 : Nat) : Int) = 0 := by omega
  have hM1 : (1 : Int) ≤ ((M + 1 : Nat) : Int) := by omega
  have hMn : ¬ (M : Int) < 0 := by omega
  have hM64 : (M : Int) < 64 := by omega
  obtain ⟨hc0, hcM⟩ := hc
  have hc1 : ¬ c = 1 := by omega
  clear hc0
  clear hs hM ih ht hq hr hl
  obtain ⟨T, hT⟩ : ∃ T, T = 2 ^ M := ⟨_, rfl⟩
  have hTH : Hid (T = 2 ^ t.length ∧ 1 ≤ T ∧ T ≤ 512) := by
    have h1 := Nat.pow_le_pow_right (n := 2) (by omega) (show M ≤ 9 by have := hMH.out; omega)
    have h2 := Nat.two_pow_pos M
    exact ⟨by rw [htH.out]; exact hT, by omega, by omega⟩
  have hTw : wrap64 (2 ^ M) = (T : Int) := by
    have : ((2 : Int) ^ M) = ((2 ^ M : Nat) : Int) := by simp
    rw [this, ← hT]
    have := hTH.out
    unfold wrap64
    omega
  clear hT
  go_enter Try.func18, Try.ntmps18
  go_wp2
  clear hM0 hM1 hTw hc1 hcM
  go_loopg [5, 22] T (fun gz bv sv wr => ∃ s b : Nat, sv = .int .i64 s ∧ bv = .int .i64 b ∧ T - s ≤ gz ∧ Hid (s ≤ T) ∧ Hid (FewI size x t s b ∧ b ≤ M + 1) ∧ Hid (Below w.heap.size w wr))
  case atStart => exact ⟨0, M + 1, rfl, by simp, by omega, Nat.zero_le _, ⟨by have := FewI.start (x := x) (t := t) (size := size) (by have := hsH.out; omega) (fun y hy => (hlH.out y hy).2); rwa [List.length_cons, htH.out] at this, Nat.le_refl _⟩, Below.refl _ _⟩
  case round =>
    obtain ⟨s, b, rfl, rfl, hgz, hs, hI, hbl⟩ := hrel
    by_cases hsT : s < T
    · have hsz : (s : Int) < (T : Int) := by omega
      have hsTH : Hid (s < T) := hsT
      have zx := hqH.out wr hbl.out
      have nz0 : (0 : Int) < ((M + 1 : Nat) : Int) := by omega
      have hs5 : Hid (s ≤ 100000) := by have := hTH.out; show _ ≤ _; omega
      clear hsT
      go_wp2
      clear zx nz0
      go_loopg [8, 9, 30] M (fun gz2 fv lv iv wq => ∃ (i : Nat) (q2 : Option Addr) (c2 : Nat), iv = .int .i64 i ∧ fv = .int .i64 (x + sumR (selL s.testBit (t.take i))) ∧ lv = .slice q2 (selL (fun k => !s.testBit k) (t.take i)).length c2 ∧ M - i ≤ gz2 ∧ Hid (i ≤ M) ∧ Hid (wq.ownsRow wr.heap.size 2 1 (.slice q2 (selL (fun k => !s.testBit k) (t.take i)).length c2) (selL (fun k => !s.testBit k) (t.take i)).length (vlN (selL (fun k => !s.testBit k) (t.take i)))) ∧ Hid (Below wr.heap.size wr wq))
      case atStart => exact ⟨0, none, 0, rfl, by simp [selL, sumR], by simp [selL], by omega, Nat.zero_le _, World.ownsRow_nil _ _ _ _, Below.refl _ _⟩
      case round =>
        rename World => wq
        obtain ⟨i, q2, c2, rfl, rfl, rfl, hgz2, hi, hown, hbq⟩ := hrel
        have hbw : Hid (Below w.heap.size w wq) := hbl.out.trans (hbq.out.mono hbl.out.size)
        by_cases hiM : i < M
        · have hiz : (i : Int) < (M : Int) := by omega
          have hiH : Hid (i < M) := hiM
          have hi5 : Hid (i ≤ 100000) := by have := hMH.out; show _ ≤ _; omega
          have iz0 : ¬ (i : Int) < 0 := by omega
          have iz64 : (i : Int) < 64 := by have := hMH.out; omega
          have hit : i < t.length := by rw [htH.out]; exact hiM
          have ey := selL_take (p := s.testBit) hit
          have en := selL_take (p := fun k => !s.testBit k) hit
          obtain ⟨gr, or, er, hAr⟩ := (hrH.out wq hbw.out).resolve_left (by omega)
          cases er
          have zt := hAr.c i hit
          have hxt := hlH.out _ (List.mem_cons_of_mem _ (nm_mem hit))
          have hsum := selL_bnd t s.testBit size (fun y hy => hlH.out y (List.mem_cons_of_mem _ hy)) i (by omega)
          have hx0 := hlH.out x (List.mem_cons_self ..)
          have hbnd : Hid (0 ≤ x + sumR (selL s.testBit (t.take i)) ∧ x + sumR (selL s.testBit (t.take i)) ≤ 1000000000000000 ∧ 1 ≤ nm t i ∧ nm t i ≤ 1099511627776) := by have := hsH.out; have := hMH.out; have hm : (i : Int) * size ≤ 9 * size := Int.mul_le_mul_of_nonneg_right (by omega) (by omega); show _ ∧ _; omega
          clear hAr hit hxt hsum hx0 hiM
          cases hbt : s.testBit i with
          | true =>
            have hdiv : ((s : Int) / 2 ^ i).tmod 2 = 1 := by rw [bit_tmod, hbt]; rfl
            rw [hbt] at ey
            have en2 : selL (fun k => !s.testBit k) (t.take (i + 1)) = selL (fun k => !s.testBit k) (t.take i) := by rw [en]; simp [hbt]
            have enH : Hid _ := en2
            have eyH : Hid (wrap64 (x + sumR (selL s.testBit (t.take i)) + nm t i) = x + sumR (selL s.testBit (t.take (i + 1)))) := by
              have := hbnd.out
              show _ = _
              rw [ey, if_pos rfl, sumR_app']
              show _ = x + (_ + (nm t i + 0))
              unfold wrap64
              omega
            clear ey en en2 hbt
            generalize nm t i = y at *
            generalize sumR (selL s.testBit (t.take i)) = F at *
            go_wp2_with fail
            go_roundg (M - (i + 1))
            case measure => have := hiH.out; omega
            case rel => exact ⟨i + 1, q2, c2, by first | exact int_wsucc hi5.out | exact int_succ i, congrArg (Value.int .i64) eyH.out, by rw [enH.out], Nat.le_refl _, hiH.out, by rw [enH.out]; exact hown, hbq⟩
          | false =>
            have hdiv : ((s : Int) / 2 ^ i).tmod 2 = 0 := by rw [bit_tmod, hbt]; rfl
            rw [hbt] at ey
            have en2 : selL (fun k => !s.testBit k) (t.take (i + 1)) = selL (fun k => !s.testBit k) (t.take i) ++ [nm t i] := by rw [en]; simp [hbt]
            have enH : Hid _ := en2
            have eyH : Hid (sumR (selL s.testBit (t.take (i + 1))) = sumR (selL s.testBit (t.take i))) := by show _ = _; rw [ey, if_neg (by decide), List.append_nil]
            have hlenH : Hid ((selL (fun k => !s.testBit k) (t.take i)).length ≤ 9) := by
              have h1 := selL_len (t.take i) (fun k => !s.testBit k)
              rw [List.length_take] at h1
              have := hMH.out
              have := hiH.out
              show _ ≤ _
              omega
            clear ey en en2 hbt
            generalize nm t i = y at *
            generalize sumR (selL s.testBit (t.take i)) = F at *
            have hownW := hown.out
            have hlen9 := hlenH.out
            have hszq := hbq.out.size
            generalize hLL : selL (fun k => !s.testBit k) (t.take i) = LL at *
            clear hLL
            go_wp2_with (first
              | (at_builtin; obtain ⟨i0, hi9, hz0, hz1, hz2⟩ := info_parts info_i64; refine wpList_append_own_at _ rfl _ _ 22 rfl wr.heap.size 2 i0 (.int .i64 0) 1 8 Try.underlying22 hi9 hz0 hz1 hz2 rfl (by decide) _ _ _ rfl (hownW.alloc _) ⟨wq.heap.size, 0, none⟩ 1 1 [.int .i64 y] rfl rfl (cells_new _ _ _) (fun v hv => by simp at hv; subst hv; rfl) (by unfold maxLen; omega) (by omega) (by simp; omega) ?_; intro v' w6 hown6 hgrow6 hnil6 hloc6; clear hi9 hz0 hz1 hz2 hnil6 hloc6; obtain ⟨g6, cap6, rfl⟩ := form_succ hown6)
              | fail)
            have hgA : (wq.alloc (.cells #[.int .i64 y] 2)).grownBy w6 (Value.ownBlock (.slice q2 LL.length c2)) := hgrow6
            have hbq6 : Hid (Below wr.heap.size wr w6) := below_app hbq.out hown.out hgA (Nat.le_refl _) hszq
            have hown7 : Hid (w6.ownsRow wr.heap.size 2 1 (.slice (some ⟨g6, 0, none⟩) (LL ++ [y]).length cap6) (LL ++ [y]).length (vlN (LL ++ [y]))) := by
              have e1 : (LL ++ [y]).length = LL.length + 1 := by simp
              have e2 : vlN (LL ++ [y]) = vlN LL ++ [.int .i64 y] := by simp [vlN]
              show w6.ownsRow wr.heap.size 2 1 _ _ _
              rw [e1, e2]
              exact hown6
            go_roundg (M - (i + 1))
            case measure => have := hiH.out; omega
            case rel => exact ⟨i + 1, some ⟨g6, 0, none⟩, cap6, by first | exact int_wsucc hi5.out | exact int_succ i, by rw [eyH.out], by rw [enH.out]; simp, Nat.le_refl _, hiH.out, by rw [enH.out]; exact hown7, hbq6⟩
        · have hiz : ¬ (i : Int) < (M : Int) := by omega
          have e : i = t.length := by have := hi.out; have := htH.out; omega
          have eT : t.take i = t := List.take_of_length_le (by omega)
          rw [eT] at hown ⊢
          clear eT e
          have hx0 := hlH.out x (List.mem_cons_self ..)
          have hLm : Hid (∀ y ∈ selL (fun k => !s.testBit k) t, 1 ≤ y ∧ y ≤ size) := fun y hy => hlH.out y (List.mem_cons_of_mem _ (selL_mem t _ y hy))
          have hLl : Hid ((selL (fun k => !s.testBit k) t).length ≤ M) := by have := selL_len t (fun k => !s.testBit k); rw [htH.out] at this; exact this
          have hyes : Hid (x + sumR (selL s.testBit t) ≤ size → ∀ r, FewB size (selL (fun k => !s.testBit k) t) r → FewI size x t (s + 1) (min b (r + 1)) ∧ min b (r + 1) ≤ M + 1) := fun h1 r h2 => ⟨hI.out.1.step h1 h2, Nat.le_trans (Nat.min_le_left _ _) hI.out.2⟩
          have hno : Hid (¬ x + sumR (selL s.testBit t) ≤ size → FewI size x t (s + 1) b ∧ b ≤ M + 1) := fun h1 => ⟨hI.out.1.skip h1, hI.out.2⟩
          have hiM9 : t.length = M := htH.out
          generalize hLL : selL (fun k => !s.testBit k) t = LL at *
          generalize sumR (selL s.testBit t) = F at *
          clear hLL hgz2 hi hx0 hI
          by_cases hF : x + F ≤ size
          · have hyH : Hid _ := hyes.out hF
            have hcall : Hid (Calls Try.prog 18 #[.slice q2 LL.length c2, .int .i64 size] wq fun e w' => (∃ r : Nat, Hid (FewB size LL r ∧ r ≤ LL.length) ∧ e = .returned (.int .i64 (r : Int))) ∧ Below wq.heap.size wq w') := ihH.out LL.length (by have := hLl.out; omega) wq q2 c2 LL rfl (nums_vlN hown.out) (own_cap hown.out) hLm.out
            have hFd : decide (x + F ≤ size) = true := decide_eq_true hF
            clear hyes hno hown
            go_wp2_with (first
              | (go_at_call 18; refine hcall.out.mono ?_; rintro e w9 ⟨⟨r, hr, rfl⟩, hb9⟩; clear hcall)
              | fail)
            have hbl9 : Hid (Below w.heap.size w w9) := hbw.out.trans (hb9.mono hbw.out.size)
            have hnew : Hid _ := hyH.out r hr.out.1
            have hmn : Hid (min (b : Int) (wrap64 (1 + (r : Int))) = ((min b (r + 1) : Nat) : Int)) := min_wr (by have h1 := hr.out.2; have h2 := hLl.out; have h3 := hMH.out; omega)
            clear hF hFd
            go_wp2
            go_roundg (T - (s + 1))
            case measure => have := hsTH.out; omega
            case rel => exact ⟨s + 1, min b (r + 1), by first | exact int_wsucc hs5.out | exact int_succ s, congrArg (Value.int .i64) hmn.out, Nat.le_refl _, hsTH.out, hnew, hbl9⟩
          · have hnH : Hid _ := hno.out hF
            have hFd : decide (x + F ≤ size) = false := decide_eq_false hF
            clear hyes hno hown
            go_wp2_with fail
            go_roundg (T - (s + 1))
            case measure => have := hsTH.out; omega
            case rel => exact ⟨s + 1, b, by first | exact int_wsucc hs5.out | exact int_succ s, rfl, Nat.le_refl _, hsTH.out, hnH, hbw⟩
    · have hsz : ¬ (s : Int) < (T : Int) := by omega
      have e : s = 2 ^ t.length := by have := hs.out; have := hTH.out.1; omega
      have hres : Hid (FewB size (x :: t) b ∧ b ≤ M + 1) := by
        refine ⟨FewI.done (fun u _ => ?_) (by rw [← e]; exact hI.out.1), hI.out.2⟩
        have hw := way_all (size := size) (l := selL (fun i => !u.testBit i) t) (by have := hsH.out; omega) (fun y hy => (hlH.out y (List.mem_cons_of_mem _ (selL_mem t _ y hy))).2)
        obtain ⟨r, _, h2⟩ := few_ex _ hw
        exact ⟨r, h2⟩
      clear e hI
      go_wp2
      go_ret
      exact ⟨⟨b, hres, rfl⟩, hbl.out⟩

end Go.Proofs.Ytfnkboegbclnaaa
