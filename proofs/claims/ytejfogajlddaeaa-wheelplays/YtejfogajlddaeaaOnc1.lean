/- WheelOnce's own map of times, and the closure that holds what was told against it, walked. -/
import Derived.Test.YtejfogajlddaeaaWla
namespace Go.Proofs.Ytejfogajlddaeaa
open Go.RowKit Go.Maps Go.Shelf Go.Lib Go.Sort Whm
set_option linter.unusedSectionVars false
variable [Inhabited Tm]
variable [Inhabited Ac]

def dA (x : Tm) : DataW Unit := .lit (.int .i64 x.a)

/-- The map D holds just the times of the timers of the list L. -/
structure Rw (D : DataW Unit) (L : List Tm) : Prop where
  tidy : Tidy D
  has : ∀ kl, Maps.has D kl = true ↔ ∃ x ∈ L, kl = ky x.i
  at_ : ∀ x ∈ L, ∀ z, D.atKey (ky x.i) z = dA x
  size : Maps.size D = L.length
  ids : L.Pairwise (fun x y => x.i ≠ y.i)

theorem Rw.empty : Rw (.map []) [] := ⟨tidy_empty, fun kl => by simp [Maps.has], fun x hx => (by cases hx), rfl, .nil⟩

theorem Rw.no {D : DataW Unit} {L : List Tm} (h : Rw D L) {id : Int} (hn : ∀ y ∈ L, y.i ≠ id) : Maps.has D (ky id) = false := by
  cases e : Maps.has D (ky id)
  · rfl
  · obtain ⟨x, hx, hk⟩ := (h.has _).1 e
    exact absurd (ky_inj hk).symm (hn x hx)

theorem Rw.yes {D : DataW Unit} {L : List Tm} (h : Rw D L) {id : Int} {x : Tm} (hx : x ∈ L) (hi : x.i = id) : Maps.has D (ky id) = true := (h.has _).2 ⟨x, hx, by rw [hi]⟩

theorem Rw.put {D : DataW Unit} {L : List Tm} (h : Rw D L) (x : Tm) (hn : ∀ y ∈ L, y.i ≠ x.i) : Rw (D.put (ky x.i) (dA x)) (L ++ [x]) := by
  have hno := h.no hn
  refine ⟨h.tidy.put (ky_key _) _, fun kl => ?_, fun y hy z => ?_, ?_, ?_⟩
  · by_cases e : kl = ky x.i
    · subst e
      rw [has_put_same h.tidy.isMap (ky_key _)]
      simp
    · rw [has_put_other e, h.has]
      simp [e]
  · rcases List.mem_append.1 hy with hy | hy
    · rw [atKey_put_other (fun e => hn y hy (ky_inj e))]
      exact h.at_ y hy z
    · obtain rfl := List.mem_singleton.1 hy
      exact atKey_put_same h.tidy.isMap (ky_key _) _ _
  · rw [size_put h.tidy, hno, h.size]
    simp
  · rw [List.pairwise_append]
    exact ⟨h.ids, by simp, fun y hy z hz => by obtain rfl := List.mem_singleton.1 hz; exact hn y hy⟩

theorem Rw.any {D : DataW Unit} {L : List Tm} (h : Rw D L) (id : Int) : Maps.has D (ky id) = L.any fun y => decide (y.i = id) := by
  rw [Bool.eq_iff_iff, h.has, List.any_eq_true]
  constructor
  · rintro ⟨x, hx, e⟩
    exact ⟨x, hx, by simpa using (ky_inj e).symm⟩
  · rintro ⟨x, hx, e⟩
    exact ⟨x, hx, by simp at e; rw [e]⟩

theorem Rw.del {D : DataW Unit} {L : List Tm} (h : Rw D L) (id : Int) : Rw (D.del (ky id)) (L.filter fun y => !decide (y.i = id)) := by
  refine ⟨h.tidy.del _, fun kl => ?_, fun y hy z => ?_, ?_, h.ids.filter _⟩
  · by_cases e : kl = ky id
    · subst e
      rw [has_del_same]
      simp
      intro x _ hne e
      exact hne (ky_inj e).symm
    · rw [has_del_other e, h.has]
      simp
      constructor
      · rintro ⟨x, hx, rfl⟩
        exact ⟨x, ⟨hx, fun e1 => e (by rw [e1])⟩, rfl⟩
      · rintro ⟨x, ⟨hx, _⟩, rfl⟩
        exact ⟨x, hx, rfl⟩
  · obtain ⟨hy, hne⟩ := List.mem_filter.1 hy
    rw [atKey_del_other (fun e => by simp at hne; exact hne (ky_inj e))]
    exact h.at_ y hy z
  · have e1 := size_del (k := ky id) h.tidy
    have e2 := len_drop id h.ids
    rw [h.size, h.any id] at e1
    omega

/-- The law's map of times: a variable in the block cb leads to the map in the block wm. -/
structure Wts (w : World) (cb wm : Nat) (L : List Tm) : Prop where
  cc : w.cell? ⟨cb, 0, none⟩ = some (.map (some wm))
  own : ∃ D, w.ownsMap Try.prog 3 (plainElem Try.prog 2) wm L.length D ∧ Rw D L

theorem Wts.lt {w : World} {cb wm : Nat} {L : List Tm} (h : Wts w cb wm L) : cb < w.heap.size := World.block_lt_of_cell? w ⟨cb, 0, none⟩ h.cc
theorem Wts.ltm {w : World} {cb wm : Nat} {L : List Tm} (h : Wts w cb wm L) : wm < w.heap.size := by
  obtain ⟨D, ho, _⟩ := h.own
  exact ho.lt
theorem Wts.ne {w : World} {cb wm : Nat} {L : List Tm} (h : Wts w cb wm L) : cb ≠ wm := by
  obtain ⟨D, ⟨es, clock, hb, _⟩, _⟩ := h.own
  intro e
  subst e
  have := h.cc
  simp [World.cell?, hb] at this
theorem Wts.kept {w w' : World} {cb wm : Nat} {L : List Tm} (h : Wts w cb wm L) (hp : w'.heap[cb]? = w.heap[cb]?) (hm : w'.heap[wm]? = w.heap[wm]?) : Wts w' cb wm L := by
  obtain ⟨D, ⟨es, clock, hb, r⟩, hr⟩ := h.own
  exact ⟨by rw [World.cell?_of_block (w := w) (a := ⟨cb, 0, none⟩) hp]; exact h.cc, D, ⟨es, clock, hm.trans hb, r⟩, hr⟩
theorem Wts.below {w w' : World} {cb wm B : Nat} {L : List Tm} (h : Wts w cb wm L) (hb : Below B w w') (h1 : cb < B) (h2 : wm < B) : Wts w' cb wm L := h.kept (hb.block cb h1) (hb.block wm h2)
theorem Wts.alloc {w : World} {cb wm : Nat} {L : List Tm} (h : Wts w cb wm L) (o : Obj) : Wts (w.alloc o) cb wm L := h.kept (Below.heap_alloc w o cb h.lt) (Below.heap_alloc w o wm h.ltm)
theorem Wts.other {w w' : World} {cb wm pb bm : Nat} {L : List Tm} (h : Wts w cb wm L) (hk : Kp pb bm w w') (h1 : cb ≠ pb) (h2 : cb ≠ bm) (h3 : wm ≠ pb) (h4 : wm ≠ bm) : Wts w' cb wm L := h.kept (hk.block cb h.lt h1 h2) (hk.block wm h.ltm h3 h4)
theorem owns_size2 {w : World} {k e : TypeId} {b n : Nat} {D : DataW Unit} (h : w.ownsMap Try.prog k (plainElem Try.prog e) b n D) : w.ownsMap Try.prog k (plainElem Try.prog e) b (Maps.size D) D := by
  obtain ⟨es, clock, hb, F, hs, rfl⟩ := h
  exact ⟨es, clock, hb, F, by simp [Maps.size, length_sorted], rfl⟩
theorem Wts_del {w w1 : World} {cb wm n : Nat} {L : List Tm} {id : Int} {D : DataW Unit} (h : Wts w cb wm L) (hr : Rw D L) (ho : w1.ownsMap Try.prog 3 (plainElem Try.prog 2) wm n (D.del (ky id))) (ht : w.mapTurned w1 wm) : Wts w1 cb wm (dropId L id) := by
  have hp : w1.heap[cb]? = w.heap[cb]? := ht.grown.block cb h.lt (fun e => h.ne (by cases e; rfl))
  refine ⟨by rw [World.cell?_of_block (w := w) (a := ⟨cb, 0, none⟩) hp]; exact h.cc, _, ?_, hr.del id⟩
  have := owns_size2 ho
  have e : Maps.size (D.del (ky id)) = (dropId L id).length := (hr.del id).size
  rw [e] at this
  exact this
theorem Wts_put {w w1 : World} {cb wm n : Nat} {L : List Tm} {x : Tm} {D : DataW Unit} (h : Wts w cb wm L) (hr : Rw D L) (hn : ∀ y ∈ L, y.i ≠ x.i) (ho : w1.ownsMap Try.prog 3 (plainElem Try.prog 2) wm n (D.put (ky x.i) (dA x))) (ht : w.mapTurned w1 wm) : Wts w1 cb wm (L ++ [x]) := by
  have hp : w1.heap[cb]? = w.heap[cb]? := ht.grown.block cb h.lt (fun e => h.ne (by cases e; rfl))
  refine ⟨by rw [World.cell?_of_block (w := w) (a := ⟨cb, 0, none⟩) hp]; exact h.cc, _, ?_, hr.put x hn⟩
  have := owns_size2 ho
  have e : Maps.size (D.put (ky x.i) (dA x)) = (L ++ [x]).length := (hr.put x hn).size
  rw [e] at this
  exact this

theorem zeroI (w : World) : (zeroValue 2).run Try.prog w = .ok (.int .i64 0) w := by kernel_rfl

/-- A look-up in the map of times: whether it was there is known. -/
theorem wpList_lookup_tw (w : World) {ops : Array Oper} {rest : List Oper} {o : Oper} {a : Act} {Q : Exit → Act → World → Prop} (hg : o.guard = none) (m x : Operand) (t : TypeId) (hop : o.op = Op.lookup t m x true)
    (ht : Try.prog.underlying t = some (.map 3 2)) (b n : Nat) (D : DataW Unit)
    (hm : a.eval m = .map (some b)) (hown : w.ownsMap Try.prog 3 (plainElem Try.prog 2) b n D) (key : Value) (kl : Lit) (hx : a.eval x = key) (hkey : keyOf Try.prog 3 key = some kl) (r : Bool) (hr : Maps.has D kl = r)
    (hK : ∀ c : Int, D.atKey kl (.lit (.int .i64 0)) = .lit (.int .i64 c) → wpList Try.prog ops Q rest (a.put o.dst (.tuple #[.int .i64 c, .bool r])) w) :
    wpList Try.prog ops Q (o :: rest) a w :=
  wpList_lookup_own_ok_int w hg m x t hop 3 2 .i64 lawK ht Try.underlying2 (zeroI w) b n D hm hown key kl hx hkey (fun c hat _ => by
    rw [hr]
    exact hK c hat)

theorem wpList_lookup_tx (w : World) {ops : Array Oper} {rest : List Oper} {o : Oper} {a : Act} {Q : Exit → Act → World → Prop} (hg : o.guard = none) (m x : Operand) (t : TypeId) (hop : o.op = Op.lookup t m x true)
    (ht : Try.prog.underlying t = some (.map 3 2)) (b n : Nat) (D : DataW Unit)
    (hm : a.eval m = .map (some b)) (hown : w.ownsMap Try.prog 3 (plainElem Try.prog 2) b n D) (key : Value) (kl : Lit) (hx : a.eval x = key) (hkey : keyOf Try.prog 3 key = some kl) (r : Bool) (hr : Maps.has D kl = r) (c : Int) (hc : D.atKey kl (.lit (.int .i64 0)) = .lit (.int .i64 c))
    (hK : wpList Try.prog ops Q rest (a.put o.dst (.tuple #[.int .i64 c, .bool r])) w) :
    wpList Try.prog ops Q (o :: rest) a w :=
  wpList_lookup_tw w hg m x t hop ht b n D hm hown key kl hx hkey r hr (fun c' hat => by
    obtain rfl : c = c' := by rw [hc] at hat; simpa using hat
    exact hK)

theorem dropAll_mem {L F : List Tm} {j : Nat} (hj : j < F.length) (hsub : ∀ x ∈ F, x ∈ L) (hids : F.Pairwise (fun x y => x.i ≠ y.i)) : F[j]! ∈ dropAll L (F.take j) := by
  rw [getElem!_pos F j hj]
  refine List.mem_filter.2 ⟨hsub _ (List.getElem_mem _), ?_⟩
  rw [Bool.not_eq_true', List.any_eq_false]
  intro y hy
  obtain ⟨i, hi, rfl⟩ := List.getElem_of_mem hy
  rw [List.length_take] at hi
  rw [List.getElem_take]
  rw [List.pairwise_iff_getElem] at hids
  have := hids i j (by omega) hj (by omega)
  simpa using this

set_option maxHeartbeats 1000000 in
set_option maxRecDepth 100000 in
/-- The closure: each that is told waits, at its time; then it waits no more. -/
theorem once_any {w : World} {cb wm g0 : Nat} {L F : List Tm} {p : Option Addr} {fcap : Nat} (h : Wts w cb wm L) (hrow : w.ownsRow g0 36 2 (.slice p F.length fcap) F.length (flatF F)) (hgw : ∀ a : Addr, p = some a → a.block ≠ wm)
    (hlen : F.length ≤ 200) (hsub : ∀ x ∈ F, x ∈ L) (hids : F.Pairwise (fun x y => x.i ≠ y.i)) (hwf : ∀ x ∈ F, (Lit.int .i64 x.i).wf = true) :
    Calls Try.prog 14 #[.slice p F.length fcap, .pointer (some ⟨cb, 0, none⟩)] w fun e w' => e = .returned (.bool true) ∧ Wts w' cb wm (dropAll L F) ∧ Kp wm wm w w' := by
  have hlen' : Hid (F.length ≤ 200) := hlen
  have hwf' : Hid (∀ x ∈ F, (Lit.int .i64 x.i).wf = true) := hwf
  have hmem : Hid (∀ j, j < F.length → F[j]! ∈ dropAll L (F.take j)) := fun j hj => dropAll_mem hj hsub hids
  have hgw' : Hid (∀ a : Addr, p = some a → a.block ≠ wm) := hgw
  clear hlen hsub hids hwf hgw
  go_enter Try.func14, Try.ntmps14
  go_wp2
  go_loopw [10] (fun iv wr => ∃ j : Nat, iv = .int .i64 j ∧ j ≤ F.length ∧ Wts wr cb wm (dropAll L (F.take j)) ∧ wr.ownsRow g0 36 2 (.slice p F.length fcap) F.length (flatF F) ∧ Kp wm wm w wr)
    (fun iv _ => F.length - (intOf iv).toNat)
  case atStart => exact ⟨0, rfl, Nat.zero_le _, by simpa [dropAll_nil] using h, hrow, Kp.refl _ _ _⟩
  case round =>
    clear h hrow
    obtain ⟨j, rfl, hjl, hW, hrow, hK⟩ := hrel
    by_cases hj : j < F.length
    · rcases hrow.2 with ⟨_, h0⟩ | ⟨g, cap', cur, hv, hrest⟩
      · omega
      · obtain ⟨rfl, rfl⟩ : p = some ⟨g, 0, none⟩ ∧ fcap = cap' := by simpa using hv
        clear hrest hv
        obtain ⟨e0, e1⟩ := flatF_get hj
        have z0 : wr.cell? ⟨g, j * 2, none⟩ = some (.int .i64 F[j]!.a) := (hrow.cellAt (j * 2) (by omega)).trans e0
        have z1 : wr.cell? ⟨g, j * 2 + 1, none⟩ = some (.int .i64 F[j]!.i) := (hrow.cellAt (j * 2 + 1) (by omega)).trans e1
        clear e0 e1
        have hx1 := hmem.out j hj
        have hx2 := hwf'.out F[j]! (by rw [getElem!_pos F j hj]; exact List.getElem_mem _)
        have ht := take_snoc hj
        generalize F[j]! = x at *
        have hxm : Hid (x ∈ dropAll L (F.take j)) := hx1
        have hxi : Hid ((Lit.int .i64 x.i).wf = true) := hx2
        have ht' : Hid (F.take (j + 1) = F.take j ++ [x]) := ht
        have hji : (j : Int) < (F.length : Int) := by omega
        clear hx1 hx2 ht
        obtain ⟨D, hown, hr⟩ := hW.own
        have hhas : Maps.has D (ky x.i) = true := hr.yes hxm.out rfl
        have hat : D.atKey (ky x.i) (.lit (.int .i64 0)) = .lit (.int .i64 x.a) := hr.at_ x hxm.out _
        have cca := cell_alloc hW.cc
        have hr' : Hid (Rw D (dropAll L (F.take j))) := hr
        have hW' : Hid (Wts wr cb wm (dropAll L (F.take j))) := hW
        have hrow' : Hid (wr.ownsRow g0 36 2 (.slice (some ⟨g, 0, none⟩) F.length fcap) F.length (flatF F)) := hrow
        clear hr hW hrow
        go_wp2_with (first
          | (at_lookup; refine wpList_lookup_tx _ rfl _ _ 40 rfl Try.underlying40 wm _ D rfl (hown.alloc _) _ _ rfl (keyOf_int_mk Try.underlying3 hxi.out) true hhas x.a hat ?_)
          | (at_delete; refine wpList_delete_own _ rfl _ _ 40 3 rfl 2 lawK Try.underlying40 (plainElem Try.prog 2) wm _ D rfl (hown.alloc _) _ _ rfl (keyOf_int_mk Try.underlying3 hxi.out) ?_; intro w5 hown5 hturn5; go_frame))
        have hW5 : Wts w5 cb wm (dropId (dropAll L (F.take j)) x.i) := Wts_del (hW'.out.alloc _) hr'.out hown5 hturn5
        have hj2 : j ≤ 100000 := Nat.le_trans hjl (Nat.le_trans hlen'.out (by decide))
        have hr5 := (hrow'.out.alloc _).kept hturn5.grown (Or.inr (fun e => hgw'.out _ rfl (by simpa [Value.ownBlock] using e)))
        refine ⟨⟨j + 1, ?_, hj, ?_, hr5, ?_⟩, ?_⟩
        · first | exact int_wsucc hj2 | exact int_succ j
        · rw [ht'.out, ← dropAll_snoc]; exact hW5
        · exact (hK.trans (Kp.alloc wr _)).trans (Kp.of_grown hturn5.grown)
        · first | exact meas_w hj hj2 | exact meas_1 hj
    · have hji : ¬ (j : Int) < (F.length : Int) := by omega
      have e : j = F.length := by omega
      subst e
      rw [List.take_length] at hW
      go_wp2
      go_ret
      exact ⟨rfl, hW, hK⟩
end Go.Proofs.Ytejfogajlddaeaa
