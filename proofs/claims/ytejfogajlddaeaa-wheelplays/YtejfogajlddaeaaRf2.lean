/- The reference's wheel, walked: Cancel. -/
import Derived.Test.YtejfogajlddaeaaRf1
import Derived.Test.YtejfogajlddaeaaTkc
namespace Go.Proofs.Ytejfogajlddaeaa
open Go.RowKit Go.Maps Go.Shelf Go.Lib Go.Sort Whm
set_option linter.unusedSectionVars false
variable [Inhabited Tm]
variable [Inhabited Ac]

set_option maxHeartbeats 1000000 in
set_option maxRecDepth 100000 in
theorem rcan_no {w : World} {mb : Nat} {p : Option Addr} {cap : Nat} {now id : Int} {L : List Tm} (h : Rfl w mb p cap now L) (hlen : L.length ≤ 200) (hno : hasId L id = false) :
    Calls Try.prog 19 #[.pointer (some ⟨mb, 0, none⟩), .int .i64 id] w fun e w' => e = .returned (.int .i64 5) ∧ Below w.heap.size w w' := by
  have c1 := h.c1
  have hlen' : Hid (L.length ≤ 200) := hlen
  clear hlen
  go_enter Try.func19, Try.ntmps19
  go_wp2
  clear c1
  go_loopw [12] (fun iv wr => ∃ j : Nat, iv = .int .i64 j ∧ j ≤ L.length ∧ Below w.heap.size w wr)
    (fun iv _ => L.length - (intOf iv).toNat)
  case atStart => exact ⟨0, rfl, Nat.zero_le _, Below.refl _ _⟩
  case round =>
    obtain ⟨j, rfl, hjl, hbl⟩ := hrel
    by_cases hj : j < L.length
    · obtain ⟨g, rfl⟩ := h.at_ (by omega)
      have hr := h.below hbl
      have z0 := hr.cellA hj
      have z1 := hr.cellI hj
      have hji : (j : Int) < (L.length : Int) := by omega
      have hj2 : Hid (j ≤ 100000) := Nat.le_trans hjl (Nat.le_trans hlen'.out (by decide))
      have hid := hasId_off hno hj
      generalize L[j]!.a = xa at *
      generalize L[j]!.i = xi at *
      clear hr
      go_wp2
      refine ⟨⟨j + 1, ?_, hj, hbl.alloc hbl.size _⟩, ?_⟩
      · first | exact int_succ j | exact int_wsucc hj2.out
      · first | exact meas_1 hj | exact meas_w hj hj2.out
    · have hji : ¬ (j : Int) < (L.length : Int) := by omega
      go_wp2
      go_ret
      exact ⟨rfl, hbl⟩

theorem erase_id {L : List Tm} {j : Nat} {id : Int} (ids : L.Pairwise (fun x y => x.i ≠ y.i)) (hj : j < L.length) (e : L[j]!.i = id) : dropId L id = L.eraseIdx j := by
  induction L generalizing j with
  | nil => cases hj
  | cons x r ih =>
    rw [List.pairwise_cons] at ids
    cases j with
    | zero =>
      have e' : x.i = id := e
      have : dropId r id = r := dropId_none (by
        unfold hasId
        rw [List.any_eq_false]
        intro y hy
        have := ids.1 y hy
        simp
        omega)
      simp only [dropId] at this ⊢
      simp [e', this]
    | succ j =>
      have hj' : j < r.length := by simpa using hj
      have e' : r[j]!.i = id := by simpa using e
      have hne : x.i ≠ id := by
        rw [← e', getElem!_pos r j hj']
        exact ids.1 _ (List.getElem_mem _)
      have := ih ids.2 hj' e'
      simp only [dropId] at this ⊢
      simp [hne, this]

theorem flatF_erase {L : List Tm} {j : Nat} : flatF (L.eraseIdx j) = (flatF L).take (j * 2) ++ (flatF L).drop ((j + 1) * 2) := by
  induction L generalizing j with
  | nil => simp [flatF]
  | cons x r ih =>
    have ef : flatF (x :: r) = .int .i64 x.a :: .int .i64 x.i :: flatF r := rfl
    cases j with
    | zero => simp [ef]
    | succ j =>
      have e2 : flatF (x :: r.eraseIdx j) = .int .i64 x.a :: .int .i64 x.i :: flatF (r.eraseIdx j) := rfl
      rw [List.eraseIdx_cons_succ, e2, ef, ih, show (j + 1) * 2 = j * 2 + 1 + 1 by omega, show (j + 1 + 1) * 2 = (j + 1) * 2 + 1 + 1 by omega]
      simp [show (j + 1) * 2 = j * 2 + 1 + 1 by omega]

/-- One is cut out, as an operation. -/
theorem step_cut {w : World} {o : Oper} {a : Act} {Q : Exit → Act → World → Prop} {K : Act → World → Prop} (s x : Operand) (hop : o.op = Op.call { callee := Callee.builtin Builtin.append, args := #[s, x], argTypes := #[32, 32] })
    {g n cap i c2 : Nat} {A2 : Addr} {xs : List Value} (hs : a.eval s = .slice (some ⟨g, 0, none⟩) i i) (hx : a.eval x = .slice (some A2) (n - (i + 1)) c2) (h : Rrow w (.slice (some ⟨g, 0, none⟩) n cap) n xs) (hi : i < n) (hA : i + 1 < n → A2 = ⟨g, (i + 1) * 2, none⟩) (hb : n ≤ 1000)
    (hK : ∀ (k c' : Nat) (w' : World), Rrow w' (.slice (some ⟨k, 0, none⟩) (n - 1) c') (n - 1) (xs.take (i * 2) ++ xs.drop ((i + 1) * 2)) → w.grownBy w' (some g) → (k = g ∨ k = w.heap.size) → K (a.put o.dst (.slice (some ⟨k, 0, none⟩) (n - 1) c')) w') : o.wp Try.prog a w K Q := by
  obtain ⟨v', w', hrun, r1, r2, r3⟩ := app_cut (c2 := c2) h hi hA hb o.type
  unfold Oper.wp
  simp [execOp, hop, resolve, invoke, builtin, hs, hx, hrun, Result.andThen]
  rcases r1.2 with ⟨rfl, h0⟩ | ⟨g', cap', cur, rfl, r⟩
  · simp [Value.ownBlock] at r3
  · exact hK g' cap' w' r1 r2 (by simpa [Value.ownBlock] using r3)

set_option maxHeartbeats 1000000 in
set_option maxRecDepth 100000 in
theorem rcan_yes {w : World} {mb : Nat} {p : Option Addr} {cap : Nat} {now id : Int} {L : List Tm} (h : Rfl w mb p cap now L) (hlen : L.length ≤ 200) (ids : L.Pairwise (fun x y => x.i ≠ y.i)) (hyes : hasId L id = true) :
    Calls Try.prog 19 #[.pointer (some ⟨mb, 0, none⟩), .int .i64 id] w fun e w' =>
      e = .returned (.int .i64 0) ∧ ∃ (p' : Option Addr) (cap' : Nat), Rfl w' mb p' cap' now (dropId L id) ∧ Kp mb (blk p mb) w w' ∧ (p' = p ∨ ∃ k, p' = some ⟨k, 0, none⟩ ∧ w.heap.size ≤ k) := by
  have c1 := h.c1
  have hlen' : Hid (L.length ≤ 200) := hlen
  have hy : Hid (∃ t, t < L.length ∧ L[t]!.i = id) := hasId_get hyes
  have hids : Hid (L.Pairwise (fun x y => x.i ≠ y.i)) := ids
  clear hlen hyes ids
  go_enter Try.func19, Try.ntmps19
  go_wp2
  clear c1
  go_loopw [12] (fun iv wr => ∃ j : Nat, iv = .int .i64 j ∧ j ≤ L.length ∧ Hid (∀ t, t < j → L[t]!.i ≠ id) ∧ Below w.heap.size w wr)
    (fun iv _ => L.length - (intOf iv).toNat)
  case atStart => exact ⟨0, rfl, Nat.zero_le _, fun t ht => by omega, Below.refl _ _⟩
  case round =>
    obtain ⟨j, rfl, hjl, hF, hbl⟩ := hrel
    by_cases hj : j < L.length
    · obtain ⟨g, rfl⟩ := h.at_ (by omega)
      have hr := h.below hbl
      have z0 := hr.cellA hj
      have z1 := hr.cellI hj
      have hji : (j : Int) < (L.length : Int) := by omega
      have hj2 : Hid (j ≤ 100000) := Nat.le_trans hjl (Nat.le_trans hlen'.out (by decide))
      have hs : Hid (L[j]!.i ≠ id → ∀ t, t < j + 1 → L[t]!.i ≠ id) := fun hne t ht => by
        by_cases e : t = j
        · subst e; exact hne
        · exact hF.out t (by omega)
      have hd : Hid (L[j]!.i = id → dropId L id = L.eraseIdx j) := fun e => erase_id hids.out hj e
      generalize L[j]!.a = xa at *
      generalize L[j]!.i = xi at *
      by_cases hid : xi = id
      · have hd' := hd.out hid
        have hdd : Hid (dropId L id = L.eraseIdx j) := hd'
        clear hd' hd hs hF
        have hrz := hr.alloc (.cells #[.int .i64 xa, .int .i64 xi] 36)
        subst hid
        go_wp2
        have hbz : Below w.heap.size w (wr.alloc (.cells #[.int .i64 xa, .int .i64 xi] 36)) := hbl.alloc hbl.size _
        clear z0 z1 hr
        generalize wr.alloc (.cells #[.int .i64 xa, .int .i64 xi] 36) = wz at *
        have c1z := hrz.c1
        have hcap : (L.length : Int) ≤ (cap : Int) := by
          rcases hrz.row.2 with ⟨h0, _⟩ | ⟨g', cap', cur, hv, _, k1, _⟩
          · simp at h0
          · obtain ⟨_, rfl⟩ : g = g' ∧ cap = cap' := by simpa using hv
            omega
        have hjc : (j : Int) ≤ (cap : Int) := by omega
        have hwj : IntKind.i64.wrap ((j : Int) + 1) = ((j + 1 : Nat) : Int) := by have := hj2.out; rw [IntKind.wrap_i64]; omega
        have hjl1 : (((j + 1 : Nat) : Int)) ≤ (L.length : Int) := by omega
        obtain ⟨A2, hA2, hA3⟩ : ∃ A2 : Addr, (if cap = j + 1 then some (⟨g, 0, none⟩ : Addr) else some ⟨g, (j + 1) * 2, none⟩) = some A2 ∧ (j + 1 < L.length → A2 = ⟨g, (j + 1) * 2, none⟩) := by
          by_cases e : cap = j + 1
          · exact ⟨_, by rw [if_pos e], fun h => by omega⟩
          · exact ⟨_, by rw [if_neg e], fun _ => rfl⟩
        have hA3' : Hid (j + 1 < L.length → A2 = ⟨g, (j + 1) * 2, none⟩) := hA3
        have hcz : wz.drew.cell? ⟨mb, 1, none⟩ = some (.slice (some ⟨g, 0, none⟩) L.length cap) := c1z
        clear hA3
        refine Tkc.region_anyC (C := fun w' => w'.cell? ⟨mb, 1, none⟩ = some (.slice (some ⟨g, 0, none⟩) L.length cap)) (s := 18) (by kernel_rfl) ?_
        refine Tkc.takeC (i := 0) (v := .pointer (some ⟨mb, 0, none⟩)) rfl (by kernel_rfl) (by kernel_rfl) (by kernel_rfl) (fun _ _ _ h => h) (by decide) (by kernel_rfl) (by kernel_rfl) hcz ⟨by rfl, fun w hw => by have hcw : w.cell? ⟨mb, 1, none⟩ = some (.slice (some ⟨g, 0, none⟩) L.length cap) := hw; go_simp⟩ ?_
        go_frame
        refine Tkc.takeC (i := 1) (v := .pointer (some ⟨mb, 0, none⟩)) rfl (by kernel_rfl) (by kernel_rfl) (by kernel_rfl) (fun _ _ _ h => h) (by decide) (by kernel_rfl) (by kernel_rfl) hcz ⟨by rfl, fun w hw => by have hcw : w.cell? ⟨mb, 1, none⟩ = some (.slice (some ⟨g, 0, none⟩) L.length cap) := hw; go_simp⟩ ?_
        go_frame
        refine Tkc.takeC (i := 2) (v := .pointer (some ⟨mb, 0, none⟩)) rfl (by kernel_rfl) (by kernel_rfl) (by kernel_rfl) (fun _ _ _ h => h) (by decide) (by kernel_rfl) (by kernel_rfl) hcz ⟨by rfl, fun w hw => by have hcw : w.cell? ⟨mb, 1, none⟩ = some (.slice (some ⟨g, 0, none⟩) L.length cap) := hw; go_simp⟩ ?_
        go_frame
        refine Tkc.takeC (i := 3) (v := .pointer (some ⟨mb, 1, none⟩)) rfl (by kernel_rfl) (by kernel_rfl) (by kernel_rfl) (fun _ _ _ h => h) (by decide) (by kernel_rfl) (by kernel_rfl) hcz ⟨by rfl, fun w hw => by have hcw : w.cell? ⟨mb, 1, none⟩ = some (.slice (some ⟨g, 0, none⟩) L.length cap) := hw; go_simp⟩ ?_
        go_frame
        refine Tkc.takeC (i := 4) (v := .slice (some ⟨g, 0, none⟩) L.length cap) rfl (by kernel_rfl) (by kernel_rfl) (by kernel_rfl) (fun _ _ _ h => h) (by decide) (by kernel_rfl) (by kernel_rfl) hcz ⟨by rfl, fun w hw => by have hcw : w.cell? ⟨mb, 1, none⟩ = some (.slice (some ⟨g, 0, none⟩) L.length cap) := hw; go_simp⟩ ?_
        go_frame
        refine Tkc.takeC (i := 5) (v := .int .i64 (j : Int)) rfl (by kernel_rfl) (by kernel_rfl) (by kernel_rfl) (fun _ _ _ h => h) (by decide) (by kernel_rfl) (by kernel_rfl) hcz ⟨by rfl, fun w hw => by have hcw : w.cell? ⟨mb, 1, none⟩ = some (.slice (some ⟨g, 0, none⟩) L.length cap) := hw; go_simp⟩ ?_
        go_frame
        refine Tkc.takeC (i := 6) (v := .int .i64 (j : Int)) rfl (by kernel_rfl) (by kernel_rfl) (by kernel_rfl) (fun _ _ _ h => h) (by decide) (by kernel_rfl) (by kernel_rfl) hcz ⟨by rfl, fun w hw => by have hcw : w.cell? ⟨mb, 1, none⟩ = some (.slice (some ⟨g, 0, none⟩) L.length cap) := hw; go_simp⟩ ?_
        go_frame
        refine Tkc.takeC (i := 7) (v := .slice (some ⟨g, 0, none⟩) j j) rfl (by kernel_rfl) (by kernel_rfl) (by kernel_rfl) (fun _ _ _ h => h) (by decide) (by kernel_rfl) (by kernel_rfl) hcz ⟨by rfl, fun w hw => by have hcw : w.cell? ⟨mb, 1, none⟩ = some (.slice (some ⟨g, 0, none⟩) L.length cap) := hw; go_simp⟩ ?_
        go_frame
        refine Tkc.takeC (i := 8) (v := .pointer (some ⟨mb, 0, none⟩)) rfl (by kernel_rfl) (by kernel_rfl) (by kernel_rfl) (fun _ _ _ h => h) (by decide) (by kernel_rfl) (by kernel_rfl) hcz ⟨by rfl, fun w hw => by have hcw : w.cell? ⟨mb, 1, none⟩ = some (.slice (some ⟨g, 0, none⟩) L.length cap) := hw; go_simp⟩ ?_
        go_frame
        refine Tkc.takeC (i := 9) (v := .pointer (some ⟨mb, 0, none⟩)) rfl (by kernel_rfl) (by kernel_rfl) (by kernel_rfl) (fun _ _ _ h => h) (by decide) (by kernel_rfl) (by kernel_rfl) hcz ⟨by rfl, fun w hw => by have hcw : w.cell? ⟨mb, 1, none⟩ = some (.slice (some ⟨g, 0, none⟩) L.length cap) := hw; go_simp⟩ ?_
        go_frame
        refine Tkc.takeC (i := 10) (v := .pointer (some ⟨mb, 1, none⟩)) rfl (by kernel_rfl) (by kernel_rfl) (by kernel_rfl) (fun _ _ _ h => h) (by decide) (by kernel_rfl) (by kernel_rfl) hcz ⟨by rfl, fun w hw => by have hcw : w.cell? ⟨mb, 1, none⟩ = some (.slice (some ⟨g, 0, none⟩) L.length cap) := hw; go_simp⟩ ?_
        go_frame
        refine Tkc.takeC (i := 11) (v := .slice (some ⟨g, 0, none⟩) L.length cap) rfl (by kernel_rfl) (by kernel_rfl) (by kernel_rfl) (fun _ _ _ h => h) (by decide) (by kernel_rfl) (by kernel_rfl) hcz ⟨by rfl, fun w hw => by have hcw : w.cell? ⟨mb, 1, none⟩ = some (.slice (some ⟨g, 0, none⟩) L.length cap) := hw; go_simp⟩ ?_
        go_frame
        refine Tkc.takeC (i := 12) (v := .int .i64 (j : Int)) rfl (by kernel_rfl) (by kernel_rfl) (by kernel_rfl) (fun _ _ _ h => h) (by decide) (by kernel_rfl) (by kernel_rfl) hcz ⟨by rfl, fun w hw => by have hcw : w.cell? ⟨mb, 1, none⟩ = some (.slice (some ⟨g, 0, none⟩) L.length cap) := hw; go_simp⟩ ?_
        go_frame
        refine Tkc.takeC (i := 13) (v := .int .i64 ((j + 1 : Nat) : Int)) rfl (by kernel_rfl) (by kernel_rfl) (by kernel_rfl) (fun _ _ _ h => h) (by decide) (by kernel_rfl) (by kernel_rfl) hcz ⟨by rfl, fun w hw => by have hcw : w.cell? ⟨mb, 1, none⟩ = some (.slice (some ⟨g, 0, none⟩) L.length cap) := hw; go_simp⟩ ?_
        go_frame
        refine Tkc.takeC (i := 14) (v := .slice (some A2) (L.length - (j + 1)) (cap - (j + 1))) rfl (by kernel_rfl) (by kernel_rfl) (by kernel_rfl) (fun _ _ _ h => h) (by decide) (by kernel_rfl) (by kernel_rfl) hcz ⟨by rfl, fun w hw => by go_simp; intro hh; exfalso; omega⟩ ?_
        go_frame
        refine Tkc.onlyC (i := 15) rfl (by kernel_rfl) (fun _ => hcz) (by rfl) (fun K hK => ?_)
        refine step_cut (g := g) (n := L.length) (cap := cap) (i := j) (c2 := cap - (j + 1)) (A2 := A2) (xs := flatF L) (.tmp 28) (.tmp 35) rfl (by simp [Act.eval]) (by simp [Act.eval]) (hrz.row.kept (w' := wz.drew) (fun _ _ => rfl)) hj hA3'.out (by have := hlen'.out; omega) ?_
        intro k' c' w5 r5 hg5 hw5
        refine hK _ _ ?_
        clear hK K
        have hgm : g ≠ mb := h.nb _ rfl
        have hm5 : w5.heap[mb]? = wz.heap[mb]? := hg5.block mb hrz.lt (fun e => hgm (by cases e; rfl))
        have y0 : w5.cell? ⟨mb, 0, none⟩ = some (.int .i64 now) := (World.cell?_of_block (w := wz) (a := ⟨mb, 0, none⟩) hm5).trans hrz.c0
        have y1 : w5.cell? ⟨mb, 1, none⟩ = some (.slice (some ⟨g, 0, none⟩) L.length cap) := (World.cell?_of_block (w := wz) (a := ⟨mb, 1, none⟩) hm5).trans hrz.c1
        have y2 : w5.frozen? ⟨mb, 1, none⟩ = false := (World.frozen?_of_block (w := wz) (a := ⟨mb, 1, none⟩) hm5).trans hrz.f1
        have y3 : w5.frozen? ⟨mb, 0, none⟩ = false := (World.frozen?_of_block (w := wz) (a := ⟨mb, 0, none⟩) hm5).trans hrz.f0
        go_frame
        refine Tkc.onlyC (i := 16) rfl (by kernel_rfl) (fun _ => y1) (by rfl) (fun K hK => ?_)
        go_simp
        refine hK _ _ ?_
        clear hK K
        refine Tkc.onlyC (i := 17) rfl (by kernel_rfl) (fun _ => y1) (by rfl) (fun K hK => ?_)
        go_simp
        refine hK _ _ ?_
        clear hK K
        refine Tkc.onlyC (i := 18) rfl (by kernel_rfl) (fun _ => y1) (by rfl) (fun K hK => ?_)
        go_simp
        refine hK _ _ ?_
        clear hK K
        refine Tkc.doneC (by kernel_rfl) (fun hz => by have hz' : true = false := hz; cases hz') ?_
        go_wp2
        go_ret
        have hle : (L.eraseIdx j).length = L.length - 1 := List.length_eraseIdx_of_lt hj
        have r6 : Rrow w5 (.slice (some ⟨k', 0, none⟩) (L.eraseIdx j).length c') (L.eraseIdx j).length (flatF (L.eraseIdx j)) := by rw [hle, flatF_erase]; exact r5
        have hzl := hrz.lt
        have hws : w.heap.size ≤ wz.heap.size := hbz.size
        have nb' : ∀ a : Addr, some (⟨k', 0, none⟩ : Addr) = some a → a.block ≠ mb := fun a ha => by
          cases ha
          rcases hw5 with e | e
          · rw [e]; exact hgm
          · rw [e]; show wz.heap.size ≠ mb; omega
        have hR := Rfl_store y0 y1 y3 y2 r6 nb'
        rw [hle] at hR
        rw [hdd.out]
        refine ⟨rfl, some ⟨k', 0, none⟩, c', hR, ?_, ?_⟩
        · exact (((Kp.of_below hbz).trans (Kp.drew wz)).trans (Kp.of_grown hg5)).trans (Kp.setCell w5 1 _)
        · rcases hw5 with e | e
          · left; rw [e]
          · right; exact ⟨k', rfl, by rw [e]; exact hws⟩
      · have hs' := hs.out hid
        clear hs hF hr
        go_wp2
        refine ⟨⟨j + 1, ?_, hj, hs', hbl.alloc hbl.size _⟩, ?_⟩
        · first | exact int_succ j | exact int_wsucc hj2.out
        · first | exact meas_1 hj | exact meas_w hj hj2.out
    · obtain ⟨t, ht, e⟩ := hy.out
      exact absurd e (hF.out t (by omega))

/-- What the reference's Add and Cancel answer, in one. -/
theorem radd_any {w : World} {mb k : Nat} {p : Option Addr} {cap : Nat} {S : Wh} {at_ id : Int} (h : Rfl w mb p cap S.now S.L) (hO : Ok k S) (wa : at_ < 9223372036854775808) :
    Calls Try.prog 18 #[.pointer (some ⟨mb, 0, none⟩), .int .i64 at_, .int .i64 id] w fun e w' =>
      e = .returned (.int .i64 (addE S at_ id)) ∧ ∃ (p' : Option Addr) (cap' : Nat), Rfl w' mb p' cap' (addS S at_ id).now (addS S at_ id).L ∧ Kp mb (blk p mb) w w' ∧ (p' = p ∨ ∃ k, p' = some ⟨k, 0, none⟩ ∧ w.heap.size ≤ k) := by
  have hl := hO.len
  have same : ∀ {n : Int}, addE S at_ id = n → n ≠ 0 → (Calls Try.prog 18 #[.pointer (some ⟨mb, 0, none⟩), .int .i64 at_, .int .i64 id] w fun e w' => e = .returned (.int .i64 n) ∧ Below w.heap.size w w') →
      Calls Try.prog 18 #[.pointer (some ⟨mb, 0, none⟩), .int .i64 at_, .int .i64 id] w fun e w' => e = .returned (.int .i64 (addE S at_ id)) ∧ ∃ (p' : Option Addr) (cap' : Nat), Rfl w' mb p' cap' (addS S at_ id).now (addS S at_ id).L ∧ Kp mb (blk p mb) w w' ∧ (p' = p ∨ ∃ k, p' = some ⟨k, 0, none⟩ ∧ w.heap.size ≤ k) := fun {n} e hn hc => by
    have e2 : addS S at_ id = S := by unfold addS; rw [e, if_neg hn]
    rw [e, e2]
    exact hc.mono fun _ _ ⟨he, hb⟩ => ⟨he, p, cap, h.below hb, Kp.of_below hb, Or.inl rfl⟩
  by_cases h1 : at_ ≤ S.now
  · exact same (n := 11) (by simp [addE, h1]) (by decide) (radd_late h h1)
  by_cases h2 : 16777216 < at_ - S.now
  · exact same (n := 4) (by simp [addE, h1, h2]) (by decide) (radd_far h hO.now0 wa (by omega) h2)
  cases h3 : hasId S.L id
  · by_cases h4 : 200 ≤ S.L.length
    · exact same (n := 7) (by simp [addE, h1, h2, h3, h4]) (by decide) (radd_full h (by omega) (by omega) (by omega) h3)
    · have e : addE S at_ id = 0 := by simp [addE, h1, h2, h3, h4]
      have e2 : addS S at_ id = ⟨S.now, S.turns + 1, S.L ++ [⟨at_, id, S.turns⟩]⟩ := by simp [addS, e]
      rw [e, e2]
      have hc : S.now < at_ := by omega
      have hf : at_ - S.now ≤ 16777216 := by omega
      exact radd_ok (at_ := at_) (id := id) S.turns h (by omega) hc hf h3
  · exact same (n := 6) (by simp [addE, h1, h2, h3]) (by decide) (radd_there h hl (by omega) (by omega) h3)

theorem rcan_any {w : World} {mb k : Nat} {p : Option Addr} {cap : Nat} {S : Wh} {id : Int} (h : Rfl w mb p cap S.now S.L) (hO : Ok k S) :
    Calls Try.prog 19 #[.pointer (some ⟨mb, 0, none⟩), .int .i64 id] w fun e w' =>
      e = .returned (.int .i64 (canE S id)) ∧ ∃ (p' : Option Addr) (cap' : Nat), Rfl w' mb p' cap' (canS S id).now (canS S id).L ∧ Kp mb (blk p mb) w w' ∧ (p' = p ∨ ∃ k, p' = some ⟨k, 0, none⟩ ∧ w.heap.size ≤ k) := by
  cases h3 : hasId S.L id
  · have e : canE S id = 5 := by simp [canE, h3]
    have e2 : (canS S id).L = S.L := dropId_none h3
    rw [e, e2]
    exact (rcan_no h hO.len h3).mono fun _ _ ⟨he, hb⟩ => ⟨he, p, cap, h.below hb, Kp.of_below hb, Or.inl rfl⟩
  · have e : canE S id = 0 := by simp [canE, h3]
    rw [e]
    exact rcan_yes h hO.len hO.ids h3
end Go.Proofs.Ytejfogajlddaeaa
