/- The reference's wheel, walked: the first of its timers, and Next. -/
import Derived.Test.YtejfogajlddaeaaRf0
namespace Go.Proofs.Ytejfogajlddaeaa
open Go.RowKit Go.Maps Go.Shelf Go.Lib Go.Sort Whm
set_option linter.unusedSectionVars false
variable [Inhabited Tm]
variable [Inhabited Ac]

/-- The reference's wheel lies in the block mb; its timers are the list L, in their order. -/
structure Rfl (w : World) (mb : Nat) (p : Option Addr) (cap : Nat) (now : Int) (L : List Tm) : Prop where
  c0 : w.cell? ⟨mb, 0, none⟩ = some (.int .i64 now)
  c1 : w.cell? ⟨mb, 1, none⟩ = some (.slice p L.length cap)
  f0 : w.frozen? ⟨mb, 0, none⟩ = false
  f1 : w.frozen? ⟨mb, 1, none⟩ = false
  row : Rrow w (.slice p L.length cap) L.length (flatF L)
  nb : ∀ a : Addr, p = some a → a.block ≠ mb

theorem Rfl.lt {w : World} {mb : Nat} {p : Option Addr} {cap : Nat} {now : Int} {L : List Tm} (h : Rfl w mb p cap now L) : mb < w.heap.size := World.block_lt_of_cell? w ⟨mb, 0, none⟩ h.c0
theorem Rfl.ltp {w : World} {mb : Nat} {p : Option Addr} {cap : Nat} {now : Int} {L : List Tm} (h : Rfl w mb p cap now L) : ∀ a : Addr, p = some a → a.block < w.heap.size := fun a ha => h.row.lt a.block (by rw [ha]; rfl)
theorem Rfl.kept {w w' : World} {mb : Nat} {p : Option Addr} {cap : Nat} {now : Int} {L : List Tm} (h : Rfl w mb p cap now L) (h1 : w'.heap[mb]? = w.heap[mb]?) (h2 : ∀ a : Addr, p = some a → w'.heap[a.block]? = w.heap[a.block]?) : Rfl w' mb p cap now L := by
  refine ⟨?_, ?_, ?_, ?_, h.row.kept (fun k hk => ?_), h.nb⟩
  · rw [World.cell?_of_block (w := w) (a := ⟨mb, 0, none⟩) h1]; exact h.c0
  · rw [World.cell?_of_block (w := w) (a := ⟨mb, 1, none⟩) h1]; exact h.c1
  · rw [World.frozen?_of_block (w := w) (a := ⟨mb, 0, none⟩) h1]; exact h.f0
  · rw [World.frozen?_of_block (w := w) (a := ⟨mb, 1, none⟩) h1]; exact h.f1
  · cases p with
    | none => simp [Value.ownBlock] at hk
    | some a =>
      simp [Value.ownBlock] at hk
      rw [← hk]
      exact h2 a rfl
theorem Rfl.below {w w' : World} {mb : Nat} {p : Option Addr} {cap : Nat} {now : Int} {L : List Tm} (h : Rfl w mb p cap now L) (hb : Below w.heap.size w w') : Rfl w' mb p cap now L := h.kept (hb.block mb h.lt) (fun a ha => hb.block a.block (h.ltp a ha))
theorem Rfl.alloc {w : World} {mb : Nat} {p : Option Addr} {cap : Nat} {now : Int} {L : List Tm} (h : Rfl w mb p cap now L) (o : Obj) : Rfl (w.alloc o) mb p cap now L := h.kept (Below.heap_alloc w o mb h.lt) (fun a ha => Below.heap_alloc w o a.block (h.ltp a ha))
/-- A row with an element begins a block. -/
theorem Rfl.at_ {w : World} {mb : Nat} {p : Option Addr} {cap : Nat} {now : Int} {L : List Tm} (h : Rfl w mb p cap now L) (h0 : 0 < L.length) : ∃ g, p = some ⟨g, 0, none⟩ := by
  rcases h.row.2 with ⟨_, h1⟩ | ⟨g, cap', cur, hv, _⟩
  · omega
  · simp at hv
    exact ⟨g, hv.1⟩
theorem Rfl.cellA {w : World} {mb g : Nat} {cap : Nat} {now : Int} {L : List Tm} (h : Rfl w mb (some ⟨g, 0, none⟩) cap now L) {j : Nat} (hj : j < L.length) : w.cell? ⟨g, j * 2, none⟩ = some (.int .i64 L[j]!.a) := (h.row.cells (by omega)).trans (flatF_get hj).1
theorem Rfl.cellI {w : World} {mb g : Nat} {cap : Nat} {now : Int} {L : List Tm} (h : Rfl w mb (some ⟨g, 0, none⟩) cap now L) {j : Nat} (hj : j < L.length) : w.cell? ⟨g, j * 2 + 1, none⟩ = some (.int .i64 L[j]!.i) := (h.row.cells (by omega)).trans (flatF_get hj).2

/-- b is the first of the least among the first m. -/
def IsF (L : List Tm) (m b : Nat) : Prop := b < m ∧ (∀ t, t < m → L[b]!.a ≤ L[t]!.a) ∧ ∀ t, t < b → L[b]!.a < L[t]!.a
theorem isF_one (L : List Tm) : IsF L 1 0 := ⟨by omega, fun t ht => by obtain rfl : t = 0 := by omega
                                                                       exact Int.le_refl _, fun t ht => by omega⟩
theorem isF_new {L : List Tm} {m b : Nat} (h : IsF L m b) (hl : L[m]!.a < L[b]!.a) : IsF L (m + 1) m := by
  obtain ⟨h1, h2, h3⟩ := h
  refine ⟨by omega, fun t ht => ?_, fun t ht => ?_⟩
  · by_cases e : t = m
    · subst e; exact Int.le_refl _
    · have := h2 t (by omega); omega
  · have := h2 t ht; omega
theorem isF_old {L : List Tm} {m b : Nat} (h : IsF L m b) (hl : ¬ L[m]!.a < L[b]!.a) : IsF L (m + 1) b := by
  obtain ⟨h1, h2, h3⟩ := h
  refine ⟨by omega, fun t ht => ?_, h3⟩
  by_cases e : t = m
  · subst e; omega
  · exact h2 t (by omega)
theorem isF_ex (L : List Tm) : ∀ m, ∃ b, IsF L (m + 1) b
  | 0 => ⟨0, isF_one L⟩
  | m + 1 => by
    obtain ⟨b, hb⟩ := isF_ex L m
    by_cases h : L[m + 1]!.a < L[b]!.a
    · exact ⟨_, isF_new hb h⟩
    · exact ⟨_, isF_old hb h⟩
theorem isF_unique {L : List Tm} {m b b' : Nat} (h : IsF L m b) (h' : IsF L m b') : b = b' := by
  obtain ⟨h1, h2, h3⟩ := h
  obtain ⟨k1, k2, k3⟩ := h'
  rcases Nat.lt_trichotomy b b' with e | e | e
  · have := h2 b' k1; have := k3 b e; omega
  · exact e
  · have := k2 b h1; have := h3 b' e; omega

/-- What 'first' has found among the first m. -/
def FsR (L : List Tm) (m : Nat) (v : Value) : Prop := (m = 0 ∧ v = .int .i64 (-1)) ∨ ∃ b : Nat, v = .int .i64 b ∧ IsF L m b

set_option maxHeartbeats 1000000 in
set_option maxRecDepth 100000 in
theorem first_any {w : World} {mb : Nat} {p : Option Addr} {cap : Nat} {now : Int} {L : List Tm} (h : Rfl w mb p cap now L) (hlen : L.length ≤ 1000) :
    Calls Try.prog 25 #[.pointer (some ⟨mb, 0, none⟩)] w fun e w' => ∃ v, e = .returned v ∧ FsR L L.length v ∧ Below w.heap.size w w' := by
  have c1 := h.c1
  have hlen' : Hid (L.length ≤ 1000) := hlen
  clear hlen
  go_enter Try.func25, Try.ntmps25
  go_wp2
  clear c1
  go_loopw [3, 11] (fun bv iv wr => ∃ j : Nat, iv = .int .i64 j ∧ j ≤ L.length ∧ Hid (FsR L j bv) ∧ Below w.heap.size w wr)
    (fun _ iv _ => L.length - (intOf iv).toNat)
  case atStart => exact ⟨0, rfl, Nat.zero_le _, Or.inl ⟨rfl, rfl⟩, Below.refl _ _⟩
  case round =>
    obtain ⟨j, rfl, hjl, hF, hbl⟩ := hrel
    by_cases hj : j < L.length
    · obtain ⟨g, rfl⟩ := h.at_ (by omega)
      have hr := h.below hbl
      have z0 := hr.cellA hj
      have z1 := hr.cellI hj
      have hji : (j : Int) < (L.length : Int) := by omega
      have hj2 : Hid (j ≤ 100000) := Nat.le_trans hjl (Nat.le_trans hlen'.out (by decide))
      have hne : Hid (∀ b, IsF L j b → (L[j]!.a < L[b]!.a → IsF L (j + 1) j) ∧ (L[b]!.a ≤ L[j]!.a → IsF L (j + 1) b)) := fun b hb => ⟨isF_new hb, fun h => isF_old hb (by omega)⟩
      generalize L[j]!.a = xa at *
      generalize L[j]!.i = xi at *
      go_wp2
      have hrz := hr.alloc (.cells #[.int .i64 xa, .int .i64 xi] 36)
      have hbz : Below w.heap.size w (wr.alloc (.cells #[.int .i64 xa, .int .i64 xi] 36)) := hbl.alloc hbl.size _
      have hn := heap_alloc_new wr (.cells #[.int .i64 xa, .int .i64 xi] 36)
      clear z0 z1 hr hbl
      generalize wr.alloc (.cells #[.int .i64 xa, .int .i64 xi] 36) = wz at *
      generalize wr.heap.size = hc at *
      have k0 : wz.cell? ⟨hc, 0, none⟩ = some (.int .i64 xa) := (cell_of_row _ _ 0 _ _ _ hn).trans rfl
      have c1z := hrz.c1
      clear hn
      rcases hF.out with ⟨e0, rfl⟩ | ⟨b, rfl, hb⟩
      · subst e0
        go_quiet (fail)
        go_wp2
        refine ⟨⟨1, rfl, hj, Or.inr ⟨0, rfl, isF_one L⟩, drewN_below hbz nq⟩, ?_⟩
        simp [intOf]; omega
      · have zb := hrz.cellA (j := b) (by have := hb.1; omega)
        have hbi : (b : Int) < (L.length : Int) := by have := hb.1; omega
        have hb0 : decide ((b : Int) < 0) = false := by simp
        have hst := hne.out b hb
        generalize L[b]!.a = xb at *
        have hst' : Hid ((xa < xb → IsF L (j + 1) j) ∧ (xb ≤ xa → IsF L (j + 1) b)) := hst
        clear hst hne hb hF
        by_cases hd : xa < xb
        · go_quiet (fail)
          go_wp2
          refine ⟨⟨j + 1, ?_, hj, Or.inr ⟨j, rfl, hst'.out.1 hd⟩, drewN_below hbz nq⟩, ?_⟩
          · first | exact int_succ j | exact int_wsucc hj2.out
          · first | exact meas_1 hj | exact meas_w hj hj2.out
        · go_quiet (fail)
          go_wp2
          refine ⟨⟨j + 1, ?_, hj, Or.inr ⟨b, rfl, hst'.out.2 (by omega)⟩, drewN_below hbz nq⟩, ?_⟩
          · first | exact int_succ j | exact int_wsucc hj2.out
          · first | exact meas_1 hj | exact meas_w hj hj2.out
    · have hji : ¬ (j : Int) < (L.length : Int) := by omega
      have e : j = L.length := by omega
      have hF' : Hid (FsR L L.length u3) := by rw [← e]; exact hF
      clear e hF
      go_wp2
      go_ret
      exact ⟨u3, rfl, hF'.out, hbl⟩

theorem isF_least {L : List Tm} {b : Nat} (h : IsF L L.length b) : L[b]!.a = leastA L := by
  obtain ⟨h1, h2, h3⟩ := h
  refine least_unique (fun x hx => ?_) ⟨L[b]!, by rw [getElem!_pos L b h1]; exact List.getElem_mem _, rfl⟩
  obtain ⟨t, ht, rfl⟩ := List.getElem_of_mem hx
  have := h2 t ht
  rwa [getElem!_pos L t ht] at this

/-- 'first', where there is none, and where there is one. -/
theorem first_none {w : World} {mb : Nat} {p : Option Addr} {cap : Nat} {now : Int} {L : List Tm} (h : Rfl w mb p cap now L) (h0 : L.length = 0) :
    Calls Try.prog 25 #[.pointer (some ⟨mb, 0, none⟩)] w fun e w' => e = .returned (.int .i64 (-1)) ∧ Below w.heap.size w w' :=
  (first_any h (by omega)).mono fun e w' ⟨v, he, hF, hb⟩ => by
    rcases hF with ⟨_, rfl⟩ | ⟨b, _, hb'⟩
    · exact ⟨he, hb⟩
    · have := hb'.1; omega
theorem first_some {w : World} {mb b : Nat} {p : Option Addr} {cap : Nat} {now : Int} {L : List Tm} (h : Rfl w mb p cap now L) (hl : L.length ≤ 1000) (hf : IsF L L.length b) :
    Calls Try.prog 25 #[.pointer (some ⟨mb, 0, none⟩)] w fun e w' => e = .returned (.int .i64 (b : Int)) ∧ Below w.heap.size w w' :=
  (first_any h hl).mono fun e w' ⟨v, he, hF, hb⟩ => by
    rcases hF with ⟨h0, _⟩ | ⟨b', rfl, hb'⟩
    · have := hf.1; omega
    · rw [isF_unique hf hb']; exact ⟨he, hb⟩

set_option maxHeartbeats 1000000 in
set_option maxRecDepth 100000 in
theorem rnext_any {w : World} {mb : Nat} {p : Option Addr} {cap : Nat} {now : Int} {L : List Tm} (h : Rfl w mb p cap now L) (hlen : L.length ≤ 1000) :
    Calls Try.prog 21 #[.pointer (some ⟨mb, 0, none⟩)] w fun e w' => e = .returned (.tuple #[.int .i64 (leastA L), .bool (someB L)]) ∧ Below w.heap.size w w' := by
  by_cases h0 : L.length = 0
  · have hf := first_none h h0
    have e : L = [] := List.eq_nil_of_length_eq_zero h0
    subst e
    clear h h0
    go_enter Try.func21, Try.ntmps21
    go_wp2_with (go_at_call 25; refine hf.mono ?_; rintro e w1 ⟨rfl, hb1⟩)
    go_ret2
    exact ⟨rfl, hb1⟩
  · obtain ⟨b, hb⟩ := isF_ex L (L.length - 1)
    rw [show L.length - 1 + 1 = L.length by omega] at hb
    have hf := first_some h hlen hb
    obtain ⟨g, rfl⟩ := h.at_ (by omega)
    have hbl : b < L.length := hb.1
    have hbi : (b : Int) < (L.length : Int) := by omega
    have hla := isF_least hb
    have hso : someB L = true := by cases L with
      | nil => simp at h0
      | cons x r => rfl
    rw [hso, ← hla]
    have hcell : ∀ w1, Below w.heap.size w w1 → w1.cell? ⟨g, b * 2, none⟩ = some (.int .i64 L[b]!.a) := fun w1 h1 => (h.below h1).cellA hbl
    have hc1 : ∀ w1, Below w.heap.size w w1 → w1.cell? ⟨mb, 1, none⟩ = some (.slice (some ⟨g, 0, none⟩) L.length cap) := fun w1 h1 => (h.below h1).c1
    clear hla hso h hb h0
    generalize L[b]!.a = la at *
    go_enter Try.func21, Try.ntmps21
    go_wp2_with (go_at_call 25; refine hf.mono ?_; rintro e w1 ⟨rfl, hb1⟩; have z0 := hcell _ hb1; have z1 := hc1 _ hb1)
    go_ret2
    exact ⟨rfl, hb1⟩

/-- What a call may leave of the reference's blocks: its own, its row's, and new ones. -/
def blk (p : Option Addr) (mb : Nat) : Nat := match p with | some a => a.block | none => mb

theorem radd_late {w : World} {mb : Nat} {p : Option Addr} {cap : Nat} {now at_ id : Int} {L : List Tm} (h : Rfl w mb p cap now L) (hc : at_ ≤ now) :
    Calls Try.prog 18 #[.pointer (some ⟨mb, 0, none⟩), .int .i64 at_, .int .i64 id] w fun e w' => e = .returned (.int .i64 11) ∧ Below w.heap.size w w' := by
  have c0 := h.c0
  clear h
  go_enter Try.func18, Try.ntmps18
  go_wp2
  go_ret
  exact ⟨rfl, Below.refl _ _⟩
theorem radd_far {w : World} {mb : Nat} {p : Option Addr} {cap : Nat} {now at_ id : Int} {L : List Tm} (h : Rfl w mb p cap now L) (h0 : 0 ≤ now) (ha : at_ < 9223372036854775808) (hc : now < at_) (hf : 16777216 < at_ - now) :
    Calls Try.prog 18 #[.pointer (some ⟨mb, 0, none⟩), .int .i64 at_, .int .i64 id] w fun e w' => e = .returned (.int .i64 4) ∧ Below w.heap.size w w' := by
  have c0 := h.c0
  clear h
  have d0 : decide (at_ ≤ now) = false := by simp; omega
  have d1 : wrap64 (at_ - now) = at_ - now := by unfold wrap64; omega
  go_enter Try.func18, Try.ntmps18
  go_wp2
  go_ret
  exact ⟨rfl, Below.refl _ _⟩

theorem hasId_get {L : List Tm} {id : Int} (h : hasId L id = true) : ∃ t, t < L.length ∧ L[t]!.i = id := by
  unfold hasId at h
  rw [List.any_eq_true] at h
  obtain ⟨x, hx, e⟩ := h
  obtain ⟨t, ht, rfl⟩ := List.getElem_of_mem hx
  exact ⟨t, ht, by rw [getElem!_pos L t ht]; simpa using e⟩

theorem hasId_off {L : List Tm} {id : Int} (h : hasId L id = false) {t : Nat} (ht : t < L.length) : L[t]!.i ≠ id := hasId_false h _ (by rw [getElem!_pos L t ht]; exact List.getElem_mem _)

set_option maxHeartbeats 1000000 in
set_option maxRecDepth 100000 in
theorem radd_there {w : World} {mb : Nat} {p : Option Addr} {cap : Nat} {now at_ id : Int} {L : List Tm} (h : Rfl w mb p cap now L) (hlen : L.length ≤ 200) (hc : now < at_) (hf : at_ - now ≤ 16777216) (hyes : hasId L id = true) :
    Calls Try.prog 18 #[.pointer (some ⟨mb, 0, none⟩), .int .i64 at_, .int .i64 id] w fun e w' => e = .returned (.int .i64 6) ∧ Below w.heap.size w w' := by
  have c0 := h.c0
  have c1 := h.c1
  have d0 : decide (at_ ≤ now) = false := by simp; omega
  have d1 : wrap64 (at_ - now) = at_ - now := by unfold wrap64; omega
  have hlen' : Hid (L.length ≤ 200) := hlen
  have hy : Hid (∃ t, t < L.length ∧ L[t]!.i = id) := hasId_get hyes
  clear hlen hyes
  go_enter Try.func18, Try.ntmps18
  go_wp2
  clear c0 c1
  go_loopw [27] (fun iv wr => ∃ j : Nat, iv = .int .i64 j ∧ j ≤ L.length ∧ Hid (∀ t, t < j → L[t]!.i ≠ id) ∧ Below w.heap.size w wr)
    (fun iv _ => L.length - (intOf iv).toNat)
  case atStart => exact ⟨0, rfl, Nat.zero_le _, fun t ht => by omega, Below.refl _ _⟩
  case round =>
    obtain ⟨j, rfl, hjl, hF, hbl⟩ := hrel
    by_cases hj : j < L.length
    · obtain ⟨g, rfl⟩ := h.at_ (by omega)
      have hr := h.below hbl
      have z0 := hr.cellA hj
      have z1 := hr.cellI hj
      have hji : (j : Int) < (L.length : Int) := by omega
      have hj2 : Hid (j ≤ 100000) := Nat.le_trans hjl (Nat.le_trans hlen'.out (by decide))
      have hs : Hid (L[j]!.i ≠ id → ∀ t, t < j + 1 → L[t]!.i ≠ id) := fun hne t ht => by
        by_cases e : t = j
        · subst e; exact hne
        · exact hF.out t (by omega)
      generalize L[j]!.a = xa at *
      generalize L[j]!.i = xi at *
      clear hr
      by_cases hid : xi = id
      · go_wp2
        go_ret
        exact ⟨rfl, hbl.alloc hbl.size _⟩
      · have hs' := hs.out hid
        clear hs hF
        go_wp2
        refine ⟨⟨j + 1, ?_, hj, hs', hbl.alloc hbl.size _⟩, ?_⟩
        · first | exact int_succ j | exact int_wsucc hj2.out
        · first | exact meas_1 hj | exact meas_w hj hj2.out
    · obtain ⟨t, ht, e⟩ := hy.out
      exact absurd e (hF.out t (by omega))

set_option maxHeartbeats 1000000 in
set_option maxRecDepth 100000 in
theorem radd_full {w : World} {mb : Nat} {p : Option Addr} {cap : Nat} {now at_ id : Int} {L : List Tm} (h : Rfl w mb p cap now L) (hlen : L.length = 200) (hc : now < at_) (hf : at_ - now ≤ 16777216) (hno : hasId L id = false) :
    Calls Try.prog 18 #[.pointer (some ⟨mb, 0, none⟩), .int .i64 at_, .int .i64 id] w fun e w' => e = .returned (.int .i64 7) ∧ Below w.heap.size w w' := by
  have c0 := h.c0
  have c1 := h.c1
  have d0 : decide (at_ ≤ now) = false := by simp; omega
  have d1 : wrap64 (at_ - now) = at_ - now := by unfold wrap64; omega
  have hlen' : Hid (L.length = 200) := hlen
  clear hlen
  go_enter Try.func18, Try.ntmps18
  go_wp2
  clear c0 c1
  go_loopw [27] (fun iv wr => ∃ j : Nat, iv = .int .i64 j ∧ j ≤ L.length ∧ Below w.heap.size w wr)
    (fun iv _ => L.length - (intOf iv).toNat)
  case atStart => exact ⟨0, rfl, Nat.zero_le _, Below.refl _ _⟩
  case round =>
    obtain ⟨j, rfl, hjl, hbl⟩ := hrel
    by_cases hj : j < L.length
    · obtain ⟨g, rfl⟩ := h.at_ (by omega)
      have hr := h.below hbl
      have z0 := hr.cellA hj
      have z1 := hr.cellI hj
      have hji : (j : Int) < (L.length : Int) := by omega
      have hj2 : Hid (j ≤ 100000) := Nat.le_trans hjl (by rw [hlen'.out]; decide)
      have hid := hasId_off hno hj
      generalize L[j]!.a = xa at *
      generalize L[j]!.i = xi at *
      clear hr
      go_wp2
      refine ⟨⟨j + 1, ?_, hj, hbl.alloc hbl.size _⟩, ?_⟩
      · first | exact int_succ j | exact int_wsucc hj2.out
      · first | exact meas_1 hj | exact meas_w hj hj2.out
    · have hji : ¬ (j : Int) < (L.length : Int) := by omega
      have hr := h.below hbl
      have c1 := hr.c1
      have hl2 : (L.length : Int) = 200 := by have := hlen'.out; omega
      clear hr
      go_wp2
      go_ret
      exact ⟨rfl, hbl⟩

theorem Rfl.own_ne {w : World} {mb : Nat} {p : Option Addr} {cap : Nat} {now : Int} {L : List Tm} (h : Rfl w mb p cap now L) (n c : Nat) : some mb ≠ Value.ownBlock (.slice p n c) := by
  cases p with
  | none => simp [Value.ownBlock]
  | some a => simp only [Value.ownBlock]; intro e; exact h.nb a rfl (by simpa using e.symm)
theorem Kp_row {mb n c : Nat} {p : Option Addr} {w w2 : World} (hg : w.grownBy w2 (Value.ownBlock (.slice p n c))) : Kp mb (blk p mb) w w2 :=
  ⟨hg.os, hg.tape, hg.output, hg.size, fun k hk _ h2 => hg.block k hk (by
    cases p with
    | none => simp [Value.ownBlock]
    | some a => simp only [Value.ownBlock]; intro e; exact h2 (by simpa [blk] using e))⟩
/-- The new row is stored into the wheel. -/
theorem Rfl_store {w : World} {mb : Nat} {p' : Option Addr} {c' : Nat} {now : Int} {L' : List Tm} {x : Value} (c0 : w.cell? ⟨mb, 0, none⟩ = some (.int .i64 now)) (c1 : w.cell? ⟨mb, 1, none⟩ = some x) (f0 : w.frozen? ⟨mb, 0, none⟩ = false) (f1 : w.frozen? ⟨mb, 1, none⟩ = false)
    (r : Rrow w (.slice p' L'.length c') L'.length (flatF L')) (nb : ∀ a : Addr, p' = some a → a.block ≠ mb) : Rfl (w.setCell ⟨mb, 1, none⟩ (.slice p' L'.length c')) mb p' c' now L' := by
  refine ⟨?_, ?_, ?_, ?_, r.kept (fun k hk => ?_), nb⟩
  · go_simp
  · go_simp
  · rw [World.frozen?_setCell]; exact f0
  · rw [World.frozen?_setCell]; exact f1
  · refine Below.heap_setCell _ _ _ _ ?_
    cases p' with
    | none => simp [Value.ownBlock] at hk
    | some a =>
      simp [Value.ownBlock] at hk
      intro e
      exact nb a rfl (by rw [hk]; exact e)
/-- Where a row lies behind an append. -/
theorem row_where {p p' : Option Addr} {n n' c c' k : Nat} (h : Value.ownBlock (.slice p' n' c') = Value.ownBlock (.slice p n c) ∨ Value.ownBlock (.slice p' n' c') = some k) : ∀ a : Addr, p' = some a → (∃ b : Addr, p = some b ∧ b.block = a.block) ∨ a.block = k := by
  intro a ha
  subst ha
  rcases h with h | h
  · cases p with
    | none => simp [Value.ownBlock] at h
    | some b => simp [Value.ownBlock] at h; exact Or.inl ⟨b, rfl, h.symm⟩
  · simp [Value.ownBlock] at h; exact Or.inr h

/-- append of one, at the operation. -/
theorem wpList_app_one {w : World} {ops : Array Oper} {rest : List Oper} {o : Oper} {a : Act} {Q : Exit → Act → World → Prop} (hg : o.guard = none)
    (s x : Operand) (hop : o.op = Op.call { callee := Callee.builtin Builtin.append, args := #[s, x], argTypes := #[32, 32] })
    {v : Value} {n c : Nat} {ad : Addr} {xs news : List Value} (hs : a.eval s = v) (hx : a.eval x = .slice (some ad) 1 c) (h : Rrow w v n xs) (hl : news.length = 2) (hn : ∀ j u, news[j]? = some u → w.cell? (ad.add j) = some u) (h1 : ∀ u ∈ news, u.oneCell' = true) (hb : n ≤ 1000)
    (hK : ∀ p' c' w', Rrow w' (.slice p' (n + 1) c') (n + 1) (xs ++ news) → w.grownBy w' v.ownBlock → (Value.ownBlock (.slice p' (n + 1) c') = v.ownBlock ∨ Value.ownBlock (.slice p' (n + 1) c') = some w.heap.size) → wpList Try.prog ops Q rest (a.put o.dst (.slice p' (n + 1) c')) w') :
    wpList Try.prog ops Q (o :: rest) a w := by
  refine wpList_plain hg fun K' hK' => ?_
  obtain ⟨v', w', hrun, r1, r2, r3⟩ := app_one (c := c) h hl hn h1 hb o.type
  unfold Oper.wp
  simp [execOp, hop, resolve, invoke, builtin, hs, hx, hrun, Result.andThen]
  rcases r1.2 with ⟨_, h0⟩ | ⟨g, cap, cur, rfl, r⟩
  · omega
  · exact hK' _ _ (hK _ cap w' r1 r2 r3)

set_option maxHeartbeats 1000000 in
set_option maxRecDepth 100000 in
theorem radd_ok {w : World} {mb : Nat} {p : Option Addr} {cap : Nat} {now at_ id : Int} {L : List Tm} (tn : Int) (h : Rfl w mb p cap now L) (hlen : L.length < 200) (hc : now < at_) (hf : at_ - now ≤ 16777216) (hno : hasId L id = false) :
    Calls Try.prog 18 #[.pointer (some ⟨mb, 0, none⟩), .int .i64 at_, .int .i64 id] w fun e w' =>
      e = .returned (.int .i64 0) ∧ ∃ (p' : Option Addr) (cap' : Nat), Rfl w' mb p' cap' now (L ++ [⟨at_, id, tn⟩]) ∧ Kp mb (blk p mb) w w' ∧ (p' = p ∨ ∃ k, p' = some ⟨k, 0, none⟩ ∧ w.heap.size ≤ k) := by
  have c0 := h.c0
  have c1 := h.c1
  have d0 : decide (at_ ≤ now) = false := by simp; omega
  have d1 : wrap64 (at_ - now) = at_ - now := by unfold wrap64; omega
  have hlen' : Hid (L.length < 200) := hlen
  clear hlen
  go_enter Try.func18, Try.ntmps18
  go_wp2
  clear c0 c1
  go_loopw [27] (fun iv wr => ∃ j : Nat, iv = .int .i64 j ∧ j ≤ L.length ∧ Below w.heap.size w wr)
    (fun iv _ => L.length - (intOf iv).toNat)
  case atStart => exact ⟨0, rfl, Nat.zero_le _, Below.refl _ _⟩
  case round =>
    obtain ⟨j, rfl, hjl, hbl⟩ := hrel
    by_cases hj : j < L.length
    · obtain ⟨g, rfl⟩ := h.at_ (by omega)
      have hr := h.below hbl
      have z0 := hr.cellA hj
      have z1 := hr.cellI hj
      have hji : (j : Int) < (L.length : Int) := by omega
      have hj2 : Hid (j ≤ 100000) := Nat.le_trans hjl (by have := hlen'.out; omega)
      have hid := hasId_off hno hj
      generalize L[j]!.a = xa at *
      generalize L[j]!.i = xi at *
      clear hr
      go_wp2
      refine ⟨⟨j + 1, ?_, hj, hbl.alloc hbl.size _⟩, ?_⟩
      · first | exact int_succ j | exact int_wsucc hj2.out
      · first | exact meas_1 hj | exact meas_w hj hj2.out
    · have hji : ¬ (j : Int) < (L.length : Int) := by omega
      have hr := h.below hbl
      have c1 := hr.c1
      have c1a := cell_alloc c1
      have hl2 : (L.length : Int) ≠ 200 := by have := hlen'.out; omega
      have hrow := hr.row.alloc (.cells #[.int .i64 at_, .int .i64 id] 36)
      have hne := h.own_ne L.length cap
      have hmb := Below.heap_alloc wr (.cells #[.int .i64 at_, .int .i64 id] 36) mb hr.lt
      have hfl : flatF (L ++ [⟨at_, id, tn⟩]) = flatF L ++ [.int .i64 at_, .int .i64 id] := flatF_snoc L ⟨at_, id, tn⟩
      have hfl' : Hid (flatF (L ++ [⟨at_, id, tn⟩]) = flatF L ++ [.int .i64 at_, .int .i64 id]) := hfl
      have hr' : Hid (Rfl wr mb p cap now L) := hr
      clear hfl hr
      go_wp2_with (at_builtin; refine wpList_app_one rfl _ _ rfl rfl rfl hrow rfl (cells_new _ [.int .i64 at_, .int .i64 id] _) (fun v hv => by simp at hv; rcases hv with rfl | rfl <;> rfl) (by have := hlen'.out; omega) ?_; intro p' c' w2 r2 hg2 hw2; have hg3 : (wr.alloc (.cells #[.int .i64 at_, .int .i64 id] 36)).grownBy w2 (Value.ownBlock (.slice p L.length cap)) := hg2; have hm2 : w2.heap[mb]? = wr.heap[mb]? := (hg3.block mb (by have := hr'.out.lt; simp; omega) hne).trans hmb; have y1 : w2.cell? ⟨mb, 1, none⟩ = some (.slice p L.length cap) := (World.cell?_of_block (w := wr) (a := ⟨mb, 1, none⟩) hm2).trans c1; have y2 : w2.frozen? ⟨mb, 1, none⟩ = false := (World.frozen?_of_block (w := wr) (a := ⟨mb, 1, none⟩) hm2).trans hr'.out.f1)
      go_ret
      have y0 : w2.cell? ⟨mb, 0, none⟩ = some (.int .i64 now) := (World.cell?_of_block (w := wr) (a := ⟨mb, 0, none⟩) hm2).trans hr'.out.c0
      have y3 : w2.frozen? ⟨mb, 0, none⟩ = false := (World.frozen?_of_block (w := wr) (a := ⟨mb, 0, none⟩) hm2).trans hr'.out.f0
      have hw : ∀ a : Addr, p' = some a → (∃ b : Addr, p = some b ∧ b.block = a.block) ∨ a.block = (wr.alloc (.cells #[.int .i64 at_, .int .i64 id] 36)).heap.size := row_where (n := L.length) (c := cap) (n' := L.length + 1) (c' := c') hw2
      have hwl := hr'.out.lt
      have nb' : ∀ a : Addr, p' = some a → a.block ≠ mb := fun a ha => by
        rcases hw a ha with ⟨b, hb, e⟩ | e
        · rw [← e]; exact h.nb b hb
        · rw [e]; simp; omega
      have r3 : Rrow w2 (.slice p' (L ++ [(⟨at_, id, tn⟩ : Tm)]).length c') (L ++ [(⟨at_, id, tn⟩ : Tm)]).length (flatF (L ++ [⟨at_, id, tn⟩])) := by
        rw [hfl'.out, List.length_append]; exact r2
      have hR := Rfl_store y0 y1 y3 y2 r3 nb'
      rw [List.length_append] at hR
      refine ⟨rfl, p', ⟨c', hR⟩, ?_, ?_⟩
      · exact (((Kp.of_below hbl).trans (Kp.alloc wr _)).trans (Kp_row hg3)).trans (Kp.setCell w2 1 _)
      · rcases r2.2 with ⟨_, h0⟩ | ⟨g, cap', cur, hv, _⟩
        · omega
        · obtain ⟨rfl, rfl⟩ : p' = some ⟨g, 0, none⟩ ∧ c' = cap' := by simpa using hv
          rcases hw _ rfl with ⟨b, hb, e⟩ | e
          · left
            obtain ⟨g2, hg2'⟩ : ∃ g2, p = some ⟨g2, 0, none⟩ := by
              rcases h.row.2 with ⟨hn, _⟩ | ⟨g2, _, _, hv2, _⟩
              · simp at hn; rw [hn.1] at hb; cases hb
              · simp at hv2; exact ⟨g2, hv2.1⟩
            rw [hg2'] at hb ⊢
            cases hb
            simp only [] at e
            rw [e]
          · right
            refine ⟨g, rfl, ?_⟩
            simp at e
            have := hbl.size
            omega
end Go.Proofs.Ytejfogajlddaeaa
