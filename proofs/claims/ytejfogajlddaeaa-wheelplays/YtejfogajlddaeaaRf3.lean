/- The reference's wheel, walked: Advance. -/
import Derived.Test.YtejfogajlddaeaaRf2
import Derived.Maps.AppendAt
namespace Go.Proofs.Ytejfogajlddaeaa
open Go.RowKit Go.Maps Go.Shelf Go.Lib Go.Sort Whm
set_option linter.unusedSectionVars false
variable [Inhabited Tm]
variable [Inhabited Ac]

theorem perm_erase : ∀ {R : List Tm} {b : Nat}, b < R.length → (R[b]! :: R.eraseIdx b).Perm R
  | [], _, h => by simp at h
  | x :: r, 0, _ => List.Perm.refl _
  | x :: r, b + 1, h => by
    have ih := perm_erase (R := r) (b := b) (by simpa using h)
    have e : (x :: r)[b + 1]! = r[b]! := by simp
    rw [e, List.eraseIdx_cons_succ]
    exact (List.Perm.swap _ _ _).trans (ih.cons x)
theorem sel_step {R : List Tm} {b : Nat} {m : Int} (hb : IsF R R.length b) (htn : R.Pairwise (fun x y => x.t < y.t)) (hd : R[b]!.a ≤ m) : srt (R.filter (dueB m)) = R[b]! :: srt ((R.eraseIdx b).filter (dueB m)) := by
  have hlt := hb.1
  symm
  refine srt_unique ?_ ?_ ((htn.filter _).imp fun h => by omega)
  · have e : (R[b]! :: R.eraseIdx b).filter (dueB m) = R[b]! :: (R.eraseIdx b).filter (dueB m) := by
      rw [List.filter_cons_of_pos (by simpa [dueB] using hd)]
    refine ((srt_perm _).cons _).trans ?_
    rw [← e]
    exact (perm_erase hlt).filter _
  · rw [List.pairwise_cons]
    refine ⟨fun y hy => ?_, srt_sorted _⟩
    have hy' := (List.mem_filter.1 ((srt_perm _).mem_iff.1 hy)).1
    rw [List.mem_eraseIdx_iff_getElem?] at hy'
    obtain ⟨t, hne, ht⟩ := hy'
    obtain ⟨htl, rfl⟩ := List.getElem?_eq_some_iff.1 ht
    have h2 := hb.2.1 t htl
    rw [getElem!_pos R t htl] at h2
    simp only [ltT, decide_eq_false_iff_not]
    rcases Nat.lt_or_gt_of_ne hne with h | h
    · have h3 := hb.2.2 t h
      rw [getElem!_pos R t htl] at h3
      omega
    · rw [List.pairwise_iff_getElem] at htn
      have h3 := htn b t hlt htl h
      rw [getElem!_pos R b hlt] at h2 ⊢
      omega
theorem sel_stop {R : List Tm} {b : Nat} {m : Int} (hb : IsF R R.length b) (hd : m < R[b]!.a) : R.filter (dueB m) = [] := by
  rw [List.filter_eq_nil_iff]
  intro x hx
  obtain ⟨t, ht, rfl⟩ := List.getElem_of_mem hx
  have h2 := hb.2.1 t ht
  rw [getElem!_pos R t ht] at h2
  simp [dueB]
  omega
theorem filter_erase {q : Tm → Bool} : ∀ {R : List Tm} {b : Nat}, b < R.length → q R[b]! = false → (R.eraseIdx b).filter q = R.filter q
  | [], b, h, _ => by simp at h
  | x :: r, 0, _, h => by
    have h' : q x = false := h
    simp [h']
  | x :: r, b + 1, hb, h => by
    have := filter_erase (R := r) (b := b) (q := q) (by simpa using hb) (by simpa using h)
    rw [List.eraseIdx_cons_succ, List.filter_cons, List.filter_cons, this]

/-- How many timers the wheel's cell tells. -/
def lenAt (w : World) (mb : Nat) : Nat := match w.cell? ⟨mb, 1, none⟩ with
  | some (.slice _ n _) => n
  | _ => 0
theorem Rfl.lenAt {w : World} {mb : Nat} {p : Option Addr} {cap : Nat} {now : Int} {L : List Tm} (h : Rfl w mb p cap now L) : lenAt w mb = L.length := by
  unfold Go.Proofs.Ytejfogajlddaeaa.lenAt
  rw [h.c1]

/-- How far the reference's Advance has come: the timers that are left, those that are told, where they lie. -/
structure Adv (w : World) (mb : Nat) (p : Option Addr) (S : Wh) (m : Int) (ov : Value) (wr : World) (R O : List Tm) (pr : Option Addr) (cr : Nat) : Prop where
  rf : Rfl wr mb pr cr m R
  own : wr.ownsRow w.heap.size 36 2 ov O.length (flatF O)
  apt : ∀ k, ov.ownBlock = some k → ∀ a : Addr, pr = some a → a.block ≠ k
  all : srt (S.L.filter (dueB m)) = O ++ srt (R.filter (dueB m))
  rst : R.filter (fun x => !dueB m x) = S.L.filter fun x => !dueB m x
  tns : R.Pairwise (fun x y => x.t < y.t)
  len : O.length + R.length ≤ 200
  kp : Kp mb (blk p mb) w wr
  whr : pr = p ∨ ∃ k, pr = some ⟨k, 0, none⟩ ∧ w.heap.size ≤ k

theorem adv_end {w : World} {mb : Nat} {p : Option Addr} {S : Wh} {m : Int} {ov : Value} {wr w2 : World} {R O F L2 : List Tm} {pr : Option Addr} {cr : Nat} (h : Adv w mb p S m ov wr R O pr cr) (e1 : O = F) (e2 : R = L2) (hb : Below wr.heap.size wr w2) :
    w2.ownsRow w.heap.size 36 2 ov F.length (flatF F) ∧ ∃ (p' : Option Addr) (cap' : Nat), Rfl w2 mb p' cap' m L2 ∧ Kp mb (blk p mb) w w2 ∧ (p' = p ∨ ∃ k, p' = some ⟨k, 0, none⟩ ∧ w.heap.size ≤ k) := by
  subst e1
  subst e2
  exact ⟨row_below h.own hb, pr, cr, h.rf.below hb, h.kp.trans (Kp.of_below hb), h.whr⟩

theorem Kp_cut {mb q g : Nat} {w w3 w5 : World} (h : Kp mb q w w3) (hg : w3.grownBy w5 (some g)) (hq : g = q ∨ w.heap.size ≤ g) : Kp mb q w w5 :=
  ⟨hg.os.trans h.os, hg.tape.trans h.tape, hg.output.trans h.output, Nat.le_trans h.size hg.size, fun k hk h1 h2 => (hg.block k (Nat.lt_of_lt_of_le hk h.size) (fun e => by
    cases e
    rcases hq with e | e
    · exact h2 e
    · omega)).trans (h.block k hk h1 h2)⟩

theorem radv_bad {w : World} {mb : Nat} {n : Int} (hn : n < 0 ∨ 16777216 < n) :
    Calls Try.prog 20 #[.pointer (some ⟨mb, 0, none⟩), .int .i64 n] w fun e w' => e = .returned (.tuple #[.slice none 0 0, .int .i64 1]) ∧ w' = w := by
  rcases hn with hn | hn
  · go_enter Try.func20, Try.ntmps20
    go_wp2
    go_ret2
    exact ⟨rfl, rfl⟩
  · have h0 : ¬ n < 0 := by omega
    go_enter Try.func20, Try.ntmps20
    go_wp2
    go_ret2
    exact ⟨rfl, rfl⟩

theorem Rfl_now {w : World} {mb : Nat} {p : Option Addr} {cap : Nat} {now : Int} {L : List Tm} (h : Rfl w mb p cap now L) (m : Int) : Rfl (w.setCell ⟨mb, 0, none⟩ (.int .i64 m)) mb p cap m L := by
  have c0 := h.c0
  have c1 := h.c1
  refine ⟨?_, ?_, ?_, ?_, h.row.kept (fun k hk => ?_), h.nb⟩
  · go_simp
  · go_simp
  · rw [World.frozen?_setCell]; exact h.f0
  · rw [World.frozen?_setCell]; exact h.f1
  · refine Below.heap_setCell _ _ _ _ (fun e => h.own_ne L.length cap ?_)
    rw [hk, e]

set_option maxHeartbeats 4000000 in
set_option maxRecDepth 100000 in
theorem radv_ok {w : World} {mb k : Nat} {p : Option Addr} {cap : Nat} {S : Wh} {n : Int} (h : Rfl w mb p cap S.now S.L) (hO : Ok k S) (hk2 : k ≤ 1000000) (n0 : 0 ≤ n) (n1 : n ≤ 16777216) :
    Calls Try.prog 20 #[.pointer (some ⟨mb, 0, none⟩), .int .i64 n] w fun e w' => ∃ ov, e = .returned (.tuple #[ov, .int .i64 0]) ∧ w'.ownsRow w.heap.size 36 2 ov (dueL S n).length (flatF (dueL S n)) ∧
      ∃ (p' : Option Addr) (cap' : Nat), Rfl w' mb p' cap' (advS S n).now (advS S n).L ∧ Kp mb (blk p mb) w w' ∧ (p' = p ∨ ∃ k, p' = some ⟨k, 0, none⟩ ∧ w.heap.size ≤ k) := by
  have c0 := h.c0
  have f0 := h.f0
  have hnow := hO.now0
  have hnowk := hO.nowk
  have d1 : wrap64 (S.now + n) = S.now + n := by unfold wrap64; omega
  have hst : Hid (Adv w mb p S (S.now + n) (.slice none 0 0) (w.setCell ⟨mb, 0, none⟩ (.int .i64 (S.now + n))) S.L [] p cap) :=
    ⟨Rfl_now h _, World.ownsRow_nil _ _ _ _, fun k hk => by simp [Value.ownBlock] at hk, rfl, rfl, hO.tns, by have := hO.len; simp; omega, Kp.setCell w 0 _, Or.inl rfl⟩
  have hmb : Hid (mb < w.heap.size) := h.lt
  unfold dueL advS
  clear h hO hnow hnowk
  generalize hm : S.now + n = m at *
  have hm' : Hid (S.now + n = m) := hm
  go_enter Try.func20, Try.ntmps20
  go_wp2
  clear c0 f0
  go_loopw [6] (fun ov wr => ∃ (R O : List Tm) (pr : Option Addr) (cr : Nat), Hid (Adv w mb p S m ov wr R O pr cr))
    (fun _ wr => lenAt wr mb)
  case atStart => exact ⟨_, _, _, _, hst⟩
  case round =>
    clear hst hm d1
    obtain ⟨R, O, pr, cr, hA⟩ := hrel
    have hR := hA.out.rf
    have hlen := hA.out.len
    by_cases hR0 : R.length = 0
    · have hf := first_none hR hR0
      have hend : Hid (O = srt (S.L.filter (dueB m)) ∧ R = S.L.filter fun x => !dueB m x) := by
        have e : R = [] := List.eq_nil_of_length_eq_zero hR0
        have a1 := hA.out.all
        have a2 := hA.out.rst
        subst e
        exact ⟨by simpa [srt] using a1.symm, by simpa using a2⟩
      clear hR hlen hR0
      go_wp2_with (go_at_call 25; refine hf.mono ?_; rintro e w1 ⟨rfl, hb1⟩)
      go_quiet (fail)
      go_wp2
      go_ret2
      obtain ⟨q1, q2, q3, q4, q5, q6⟩ := adv_end hA.out hend.out.1 hend.out.2 (drewN_below hb1 nq)
      exact ⟨u6, rfl, q1, q2, q3, q4, q5, q6⟩
    · obtain ⟨b, hb⟩ := isF_ex R (R.length - 1)
      rw [show R.length - 1 + 1 = R.length by omega] at hb
      have hf := first_some hR (by omega) hb
      obtain ⟨g, rfl⟩ := hR.at_ (by omega)
      have hbl : b < R.length := hb.1
      have hbi : (b : Int) < (R.length : Int) := by omega
      have hb0 : decide ((b : Int) < 0) = false := by simp
      have hRb : Hid (∀ w1, Below wr.heap.size wr w1 → Rfl w1 mb (some ⟨g, 0, none⟩) cr m R) := fun w1 h1 => hR.below h1
      have hstop : Hid (m < R[b]!.a → O = srt (S.L.filter (dueB m)) ∧ R = S.L.filter fun x => !dueB m x) := fun hd => by
        have e := sel_stop hb hd
        have a1 := hA.out.all
        have a2 := hA.out.rst
        rw [e] at a1
        refine ⟨by simpa [srt] using a1.symm, ?_⟩
        rw [← a2, List.filter_eq_self.2]
        intro x hx
        have := List.filter_eq_nil_iff.1 e x hx
        simpa using this
      have hgo : Hid (R[b]!.a ≤ m → srt (S.L.filter (dueB m)) = (O ++ [R[b]!]) ++ srt ((R.eraseIdx b).filter (dueB m)) ∧ (R.eraseIdx b).filter (fun x => !dueB m x) = S.L.filter fun x => !dueB m x) := fun hd => by
        have a1 := hA.out.all
        rw [sel_step hb hA.out.tns hd] at a1
        refine ⟨by rw [a1]; simp, ?_⟩
        rw [← hA.out.rst]
        exact filter_erase hbl (by simpa [dueB] using hd)
      have hcells : ∀ w1, Below wr.heap.size wr w1 → w1.cell? ⟨g, b * 2, none⟩ = some (.int .i64 R[b]!.a) ∧ w1.cell? ⟨g, b * 2 + 1, none⟩ = some (.int .i64 R[b]!.i) ∧ w1.cell? ⟨mb, 1, none⟩ = some (.slice (some ⟨g, 0, none⟩) R.length cr) ∧ w1.cell? ⟨mb, 0, none⟩ = some (.int .i64 m) := fun w1 h1 =>
        ⟨(hR.below h1).cellA hbl, (hR.below h1).cellI hbl, (hR.below h1).c1, (hR.below h1).c0⟩
      have hls : Hid (lenAt wr mb = R.length) := hR.lenAt
      generalize hx : R[b]! = x at *
      clear hb hR hx hR0
      by_cases hd : m < x.a
      · have hend : Hid (O = srt (S.L.filter (dueB m)) ∧ R = S.L.filter fun x => !dueB m x) := hstop.out hd
        clear hstop hgo
        go_wp2_with (go_at_call 25; refine hf.mono ?_; rintro e w1 ⟨rfl, hb1⟩)
        obtain ⟨z0, z1, z2, z3⟩ := hcells w1 hb1
        clear hcells
        go_quiet (fail)
        go_wp2
        go_ret2
        obtain ⟨q1, q2, q3, q4, q5, q6⟩ := adv_end hA.out hend.out.1 hend.out.2 (drewN_below hb1 nq)
        exact ⟨u6, rfl, q1, q2, q3, q4, q5, q6⟩
      · have hgo' : Hid (srt (S.L.filter (dueB m)) = (O ++ [x]) ++ srt ((R.eraseIdx b).filter (dueB m)) ∧ (R.eraseIdx b).filter (fun x => !dueB m x) = S.L.filter fun x => !dueB m x) := hgo.out (by omega)
        clear hstop hgo
        go_wp2_with (go_at_call 25; refine hf.mono ?_; rintro e w1 ⟨rfl, hb1⟩)
        obtain ⟨z0, z1, z2, z3⟩ := hcells w1 hb1
        clear hcells
        go_quiet (fail)
        have v0 : (w1.drewN nq).cell? ⟨g, b * 2, none⟩ = some (.int .i64 x.a) := z0
        have v1 : (w1.drewN nq).cell? ⟨g, b * 2 + 1, none⟩ = some (.int .i64 x.i) := z1
        have v2 : (w1.drewN nq).cell? ⟨mb, 1, none⟩ = some (.slice (some ⟨g, 0, none⟩) R.length cr) := z2
        have hB2 : Below wr.heap.size wr (w1.drewN nq) := drewN_below hb1 nq
        clear z0 z1 z2 z3 hb1
        generalize w1.drewN nq = w2 at *
        have hR2 : Hid (Rfl w2 mb (some ⟨g, 0, none⟩) cr m R) := hRb.out w2 hB2
        have hown2 := row_below hA.out.own hB2
        have hws2 : w.heap.size ≤ w2.heap.size := Nat.le_trans hA.out.kp.size hB2.size
        go_wp2_with (at_builtin; obtain ⟨i0, hi, hz0, hz1, hz2⟩ := info_parts info_fire; refine wpList_append_own_at _ rfl _ _ 32 rfl w.heap.size 36 i0 (.agg #[.int .i64 0, .int .i64 0]) 2 16 Try.underlying32 hi hz0 hz1 hz2 rfl (by decide) _ _ _ rfl (hown2.alloc _) ⟨w2.heap.size, 0, none⟩ 1 1 [.int .i64 x.a, .int .i64 x.i] rfl rfl (cells_new _ _ _) (fun v hv => by simp at hv; rcases hv with rfl | rfl <;> rfl) (by unfold maxLen; omega) (by omega) (by simp; omega) ?_; intro ov' w3 hown3 hg3 hnil3 hloc3; clear hi hz0 hz1 hz2 hnil3)
        have hg3' : (w2.alloc (.cells #[.int .i64 x.a, .int .i64 x.i] 36)).grownBy w3 u6.ownBlock := hg3
        have hloc : ov'.ownBlock = u6.ownBlock ∨ ov'.ownBlock = some (w2.alloc (.cells #[.int .i64 x.a, .int .i64 x.i] 36)).heap.size := hloc3
        clear hg3 hloc3
        have hapt : ∀ k, u6.ownBlock = some k → g ≠ k := fun k hk => hA.out.apt k hk _ rfl
        have hbig : ∀ k, u6.ownBlock = some k → w.heap.size ≤ k := fun k hk => (hA.out.own.lt k hk).1
        have hR2a := hR2.out.alloc (.cells #[.int .i64 x.a, .int .i64 x.i] 36)
        have hg2l : g < w2.heap.size := hR2.out.ltp _ rfl
        have hmbl := hmb.out
        have hR3 : Rfl w3 mb (some ⟨g, 0, none⟩) cr m R := hR2a.kept (hg3'.block mb hR2a.lt (fun e => by have := hbig mb e.symm; omega)) (fun a ha => by
          cases ha
          exact hg3'.block g (by simp; omega) (fun e => hapt g e.symm rfl))
        have hs3 : w2.heap.size + 1 ≤ w3.heap.size := by have := hg3'.size; simpa using this
        have hK3 : Hid (Kp mb (blk p mb) w w3) := Kp_grown ((hA.out.kp.trans (Kp.of_below hB2)).trans (Kp.alloc w2 _)) hg3' hbig
        have hapt' : Hid (∀ k, ov'.ownBlock = some k → g ≠ k ∧ k < w3.heap.size) := fun k hk => by
          refine ⟨?_, (hown3.lt k hk).2⟩
          rcases hloc with e | e
          · exact hapt k (by rw [← e]; exact hk)
          · rw [e] at hk
            simp at hk
            omega
        have hgw : Hid (g = blk p mb ∨ w.heap.size ≤ g) := by
          rcases hA.out.whr with e | ⟨k, e, hk⟩
          · left; rw [← e]; rfl
          · right; cases e; exact hk
        have hown3' : Hid (w3.ownsRow w.heap.size 36 2 ov' (O.length + 1) (flatF O ++ [.int .i64 x.a, .int .i64 x.i])) := hown3
        clear hown3 hown2 hg3' hloc hapt hbig hR2 hR2a hRb v0 v1 v2 hf
        have c1z := hR3.c1
        have hcap : (R.length : Int) ≤ (cr : Int) := by
          rcases hR3.row.2 with ⟨h0, _⟩ | ⟨g', cap', cur, hv, _, k1, _⟩
          · simp at h0
          · obtain ⟨_, rfl⟩ : g = g' ∧ cr = cap' := by simpa using hv
            omega
        have hjc : (b : Int) ≤ (cr : Int) := by omega
        have hwj : IntKind.i64.wrap ((b : Int) + 1) = ((b + 1 : Nat) : Int) := by rw [IntKind.wrap_i64]; omega
        have hjl1 : (((b + 1 : Nat) : Int)) ≤ (R.length : Int) := by omega
        obtain ⟨A2, hA2, hA3⟩ : ∃ A2 : Addr, (if cr = b + 1 then some (⟨g, 0, none⟩ : Addr) else some ⟨g, (b + 1) * 2, none⟩) = some A2 ∧ (b + 1 < R.length → A2 = ⟨g, (b + 1) * 2, none⟩) := by
          by_cases e : cr = b + 1
          · exact ⟨_, by rw [if_pos e], fun h => by omega⟩
          · exact ⟨_, by rw [if_neg e], fun _ => rfl⟩
        have hA3' : Hid (b + 1 < R.length → A2 = ⟨g, (b + 1) * 2, none⟩) := hA3
        have hcz : w3.drew.cell? ⟨mb, 1, none⟩ = some (.slice (some ⟨g, 0, none⟩) R.length cr) := c1z
        have hlen' : Hid (O.length + R.length ≤ 200) := hlen
        clear hA3 hlen
        refine Tkc.region_anyC (C := fun w' => w'.cell? ⟨mb, 1, none⟩ = some (.slice (some ⟨g, 0, none⟩) R.length cr)) (s := 18) (by kernel_rfl) ?_
        refine Tkc.takeC (i := 0) (v := .pointer (some ⟨mb, 0, none⟩)) rfl (by kernel_rfl) (by kernel_rfl) (by kernel_rfl) (fun _ _ _ h => h) (by decide) (by kernel_rfl) (by kernel_rfl) hcz ⟨by rfl, fun w hw => by have hcw : w.cell? ⟨mb, 1, none⟩ = some (.slice (some ⟨g, 0, none⟩) R.length cr) := hw; go_simp⟩ ?_
        go_frame
        refine Tkc.takeC (i := 1) (v := .pointer (some ⟨mb, 0, none⟩)) rfl (by kernel_rfl) (by kernel_rfl) (by kernel_rfl) (fun _ _ _ h => h) (by decide) (by kernel_rfl) (by kernel_rfl) hcz ⟨by rfl, fun w hw => by have hcw : w.cell? ⟨mb, 1, none⟩ = some (.slice (some ⟨g, 0, none⟩) R.length cr) := hw; go_simp⟩ ?_
        go_frame
        refine Tkc.takeC (i := 2) (v := .pointer (some ⟨mb, 0, none⟩)) rfl (by kernel_rfl) (by kernel_rfl) (by kernel_rfl) (fun _ _ _ h => h) (by decide) (by kernel_rfl) (by kernel_rfl) hcz ⟨by rfl, fun w hw => by have hcw : w.cell? ⟨mb, 1, none⟩ = some (.slice (some ⟨g, 0, none⟩) R.length cr) := hw; go_simp⟩ ?_
        go_frame
        refine Tkc.takeC (i := 3) (v := .pointer (some ⟨mb, 1, none⟩)) rfl (by kernel_rfl) (by kernel_rfl) (by kernel_rfl) (fun _ _ _ h => h) (by decide) (by kernel_rfl) (by kernel_rfl) hcz ⟨by rfl, fun w hw => by have hcw : w.cell? ⟨mb, 1, none⟩ = some (.slice (some ⟨g, 0, none⟩) R.length cr) := hw; go_simp⟩ ?_
        go_frame
        refine Tkc.takeC (i := 4) (v := .slice (some ⟨g, 0, none⟩) R.length cr) rfl (by kernel_rfl) (by kernel_rfl) (by kernel_rfl) (fun _ _ _ h => h) (by decide) (by kernel_rfl) (by kernel_rfl) hcz ⟨by rfl, fun w hw => by have hcw : w.cell? ⟨mb, 1, none⟩ = some (.slice (some ⟨g, 0, none⟩) R.length cr) := hw; go_simp⟩ ?_
        go_frame
        refine Tkc.takeC (i := 5) (v := .int .i64 (b : Int)) rfl (by kernel_rfl) (by kernel_rfl) (by kernel_rfl) (fun _ _ _ h => h) (by decide) (by kernel_rfl) (by kernel_rfl) hcz ⟨by rfl, fun w hw => by have hcw : w.cell? ⟨mb, 1, none⟩ = some (.slice (some ⟨g, 0, none⟩) R.length cr) := hw; go_simp⟩ ?_
        go_frame
        refine Tkc.takeC (i := 6) (v := .int .i64 (b : Int)) rfl (by kernel_rfl) (by kernel_rfl) (by kernel_rfl) (fun _ _ _ h => h) (by decide) (by kernel_rfl) (by kernel_rfl) hcz ⟨by rfl, fun w hw => by have hcw : w.cell? ⟨mb, 1, none⟩ = some (.slice (some ⟨g, 0, none⟩) R.length cr) := hw; go_simp⟩ ?_
        go_frame
        refine Tkc.takeC (i := 7) (v := .slice (some ⟨g, 0, none⟩) b b) rfl (by kernel_rfl) (by kernel_rfl) (by kernel_rfl) (fun _ _ _ h => h) (by decide) (by kernel_rfl) (by kernel_rfl) hcz ⟨by rfl, fun w hw => by have hcw : w.cell? ⟨mb, 1, none⟩ = some (.slice (some ⟨g, 0, none⟩) R.length cr) := hw; go_simp⟩ ?_
        go_frame
        refine Tkc.takeC (i := 8) (v := .pointer (some ⟨mb, 0, none⟩)) rfl (by kernel_rfl) (by kernel_rfl) (by kernel_rfl) (fun _ _ _ h => h) (by decide) (by kernel_rfl) (by kernel_rfl) hcz ⟨by rfl, fun w hw => by have hcw : w.cell? ⟨mb, 1, none⟩ = some (.slice (some ⟨g, 0, none⟩) R.length cr) := hw; go_simp⟩ ?_
        go_frame
        refine Tkc.takeC (i := 9) (v := .pointer (some ⟨mb, 0, none⟩)) rfl (by kernel_rfl) (by kernel_rfl) (by kernel_rfl) (fun _ _ _ h => h) (by decide) (by kernel_rfl) (by kernel_rfl) hcz ⟨by rfl, fun w hw => by have hcw : w.cell? ⟨mb, 1, none⟩ = some (.slice (some ⟨g, 0, none⟩) R.length cr) := hw; go_simp⟩ ?_
        go_frame
        refine Tkc.takeC (i := 10) (v := .pointer (some ⟨mb, 1, none⟩)) rfl (by kernel_rfl) (by kernel_rfl) (by kernel_rfl) (fun _ _ _ h => h) (by decide) (by kernel_rfl) (by kernel_rfl) hcz ⟨by rfl, fun w hw => by have hcw : w.cell? ⟨mb, 1, none⟩ = some (.slice (some ⟨g, 0, none⟩) R.length cr) := hw; go_simp⟩ ?_
        go_frame
        refine Tkc.takeC (i := 11) (v := .slice (some ⟨g, 0, none⟩) R.length cr) rfl (by kernel_rfl) (by kernel_rfl) (by kernel_rfl) (fun _ _ _ h => h) (by decide) (by kernel_rfl) (by kernel_rfl) hcz ⟨by rfl, fun w hw => by have hcw : w.cell? ⟨mb, 1, none⟩ = some (.slice (some ⟨g, 0, none⟩) R.length cr) := hw; go_simp⟩ ?_
        go_frame
        refine Tkc.takeC (i := 12) (v := .int .i64 (b : Int)) rfl (by kernel_rfl) (by kernel_rfl) (by kernel_rfl) (fun _ _ _ h => h) (by decide) (by kernel_rfl) (by kernel_rfl) hcz ⟨by rfl, fun w hw => by have hcw : w.cell? ⟨mb, 1, none⟩ = some (.slice (some ⟨g, 0, none⟩) R.length cr) := hw; go_simp⟩ ?_
        go_frame
        refine Tkc.takeC (i := 13) (v := .int .i64 ((b + 1 : Nat) : Int)) rfl (by kernel_rfl) (by kernel_rfl) (by kernel_rfl) (fun _ _ _ h => h) (by decide) (by kernel_rfl) (by kernel_rfl) hcz ⟨by rfl, fun w hw => by have hcw : w.cell? ⟨mb, 1, none⟩ = some (.slice (some ⟨g, 0, none⟩) R.length cr) := hw; go_simp⟩ ?_
        go_frame
        refine Tkc.takeC (i := 14) (v := .slice (some A2) (R.length - (b + 1)) (cr - (b + 1))) rfl (by kernel_rfl) (by kernel_rfl) (by kernel_rfl) (fun _ _ _ h => h) (by decide) (by kernel_rfl) (by kernel_rfl) hcz ⟨by rfl, fun w hw => by go_simp; intro hh; exfalso; omega⟩ ?_
        go_frame
        refine Tkc.onlyC (i := 15) rfl (by kernel_rfl) (fun _ => hcz) (by rfl) (fun K hK => ?_)
        refine step_cut (g := g) (n := R.length) (cap := cr) (i := b) (c2 := cr - (b + 1)) (A2 := A2) (xs := flatF R) (.tmp 59) (.tmp 66) rfl (by simp [Act.eval]) (by simp [Act.eval]) (hR3.row.kept (w' := w3.drew) (fun _ _ => rfl)) hbl hA3'.out (by have := hlen'.out; omega) ?_
        intro k' c' w5 r5 hg5 hw5
        refine hK _ _ ?_
        clear hK K
        have hgm : g ≠ mb := hR3.nb _ rfl
        have hm5 : w5.heap[mb]? = w3.heap[mb]? := hg5.block mb hR3.lt (fun e => hgm (by cases e; rfl))
        have y0 : w5.cell? ⟨mb, 0, none⟩ = some (.int .i64 m) := (World.cell?_of_block (w := w3) (a := ⟨mb, 0, none⟩) hm5).trans hR3.c0
        have y1 : w5.cell? ⟨mb, 1, none⟩ = some (.slice (some ⟨g, 0, none⟩) R.length cr) := (World.cell?_of_block (w := w3) (a := ⟨mb, 1, none⟩) hm5).trans hR3.c1
        have y2 : w5.frozen? ⟨mb, 1, none⟩ = false := (World.frozen?_of_block (w := w3) (a := ⟨mb, 1, none⟩) hm5).trans hR3.f1
        have y3 : w5.frozen? ⟨mb, 0, none⟩ = false := (World.frozen?_of_block (w := w3) (a := ⟨mb, 0, none⟩) hm5).trans hR3.f0
        go_frame
        refine Tkc.onlyC (i := 16) rfl (by kernel_rfl) (fun _ => y1) (by rfl) (fun K hK => ?_)
        go_simp
        refine hK _ _ ?_
        clear hK K
        refine Tkc.onlyC (i := 17) rfl (by kernel_rfl) (fun _ => y1) (by rfl) (fun K hK => ?_)
        go_simp
        refine hK _ _ ?_
        clear hK K
        refine Tkc.onlyC (i := 18) rfl (by kernel_rfl) (fun _ => y1) (by rfl) (fun K hK => ?_)
        go_simp
        refine hK _ _ ?_
        clear hK K
        refine Tkc.doneC (by kernel_rfl) (fun hz => by have hz' : true = false := hz; cases hz') ?_
        go_wp2
        have hle : (R.eraseIdx b).length = R.length - 1 := List.length_eraseIdx_of_lt hbl
        have r6 : Rrow w5 (.slice (some ⟨k', 0, none⟩) (R.eraseIdx b).length c') (R.eraseIdx b).length (flatF (R.eraseIdx b)) := by rw [hle, flatF_erase]; exact r5
        have hw5' : k' = g ∨ k' = w3.heap.size := hw5
        have hzl := hR3.lt
        have nb' : ∀ a : Addr, some (⟨k', 0, none⟩ : Addr) = some a → a.block ≠ mb := fun a ha => by
          cases ha
          rcases hw5' with e | e
          · rw [e]; exact hgm
          · rw [e]; show w3.heap.size ≠ mb; omega
        have hRn := Rfl_store y0 y1 y3 y2 r6 nb'
        rw [hle] at hRn
        have hgs := hg5.size
        have ho5 : w5.ownsRow w.heap.size 36 2 ov' (O.length + 1) (flatF O ++ [.int .i64 x.a, .int .i64 x.i]) := hown3'.out.drew.kept hg5 (by
          cases hv : ov'.ownBlock with
          | none => exact Or.inl rfl
          | some k => right; intro e; exact (hapt'.out k hv).1 (by cases e; rfl))
        have ho6 : (w5.setCell ⟨mb, 1, none⟩ (.slice (some ⟨k', 0, none⟩) (R.length - 1) c')).ownsRow w.heap.size 36 2 ov' (O.length + 1) (flatF O ++ [.int .i64 x.a, .int .i64 x.i]) := ownsRow_setCell_below ho5 (a := ⟨mb, 1, none⟩) hmbl _
        have hAdv : Adv w mb p S m ov' (w5.setCell ⟨mb, 1, none⟩ (.slice (some ⟨k', 0, none⟩) (R.length - 1) c')) (R.eraseIdx b) (O ++ [x]) (some ⟨k', 0, none⟩) c' := by
          refine ⟨hRn, ?_, ?_, hgo'.out.1, hgo'.out.2, hA.out.tns.sublist (List.eraseIdx_sublist _ _), ?_, ?_, ?_⟩
          · rw [flatF_snoc, List.length_append]; exact ho6
          · intro k hk a ha
            cases ha
            have := hapt'.out k hk
            rcases hw5' with e | e
            · rw [e]; exact this.1
            · rw [e]; show w3.heap.size ≠ k; omega
          · have := hlen'.out
            rw [hle, List.length_append]
            simp
            omega
          · exact (Kp_cut (hK3.out.trans (Kp.drew w3)) hg5 hgw.out).trans (Kp.setCell w5 1 _)
          · rcases hw5' with e | e
            · rw [e]; exact hA.out.whr
            · right; exact ⟨k', rfl, by rw [e]; omega⟩
        refine ⟨⟨_, _, _, _, hAdv⟩, ?_⟩
        rw [hAdv.rf.lenAt, hls.out, hle]
        omega
end Go.Proofs.Ytejfogajlddaeaa
