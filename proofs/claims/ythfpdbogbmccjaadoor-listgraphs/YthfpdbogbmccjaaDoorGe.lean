/- Order, walked. -/
import Derived.Test.YthfpdbogbmccjaaDoorGd
namespace Go.Proofs.YthfpdbogbmccjaaDoor
open Go.RowKit Gm
set_option linter.unusedSectionVars false

/-- What Order answers of a graph that is one: a row of all, or that something comes behind itself. -/
def OrdO (l : List Ed) (N B : Nat) (e : Ending) (w' : World) : Prop :=
  (∃ (R : List Nat) (p : Option Addr) (c : Nat), e = .returned (.tuple #[.slice p N c, .int .i64 0]) ∧ w'.ownsRow B 3 1 (.slice p N c) N (ints R) ∧ R.length = N ∧ Grd (eB l) N R ∧ ∀ j, j < N → j ∈ R) ∨
  (e = .returned (.tuple #[.slice none 0 0, .int .i64 8]) ∧ ∃ i, Rch (eB l) i i)

def ahd (l : List Ed) (i j : Nat) : Bool := eB l j i

/-- What stands between two rounds of Order: the row R, what is left p. -/
structure OrdI (l : List Ed) (N : Nat) (R : List Nat) (p : Nat → Bool) : Prop where
  grd : Grd (eB l) N R
  lft : ∀ j, p j = decide (j < N ∧ j ∉ R)
  len : R.length + (bl p 60).length = N
theorem OrdI.start (l : List Ed) {N : Nat} (hN : N ≤ 60) : OrdI l N [] (fun j => decide (j < N)) := by
  refine ⟨.nil, fun j => by simp, ?_⟩
  rw [bl_skip hN fun j h1 _ => by simp; omega]
  unfold bl
  rw [List.filter_eq_self.2 fun j hj => by simpa using hj]
  simp
theorem OrdI.done {l : List Ed} {N : Nat} {R : List Nat} {p : Nat → Bool} (h : OrdI l N R p) (hN : N ≤ 60) (h0 : bs p 60 = 0) : R.length = N ∧ ∀ j, j < N → j ∈ R := by
  have hz := bs_zero.1 h0
  have : bl p 60 = [] := bl_nil.2 hz
  refine ⟨by have := h.len; simp_all, fun j hj => ?_⟩
  have := hz j (by omega)
  rw [h.lft] at this
  simp at this
  exact this hj
theorem nob_iff {l : List Ed} {N : Nat} (hg : Gr N l) {R : List Nat} {p : Nat → Bool} (h : OrdI l N R p) (c : Nat) : nob p (ahd l) c = true ↔ ∀ j, eB l j c = true → j ∈ R := by
  unfold nob
  rw [decide_eq_true_iff, bs_zero]
  constructor
  · intro hz j hj
    have hl := hg.lt hj
    have := hg.n60
    have h2 := hz j (by omega)
    simp only [ahd, hj, Bool.true_and, h.lft] at h2
    simp at h2
    exact h2 hl.1
  · intro hz j _
    by_cases hj : eB l j c = true
    · have := hz j hj
      simp [ahd, h.lft, this]
    · simp [ahd, hj]
theorem OrdI.fre {l : List Ed} {N : Nat} (hg : Gr N l) {R : List Nat} {p : Nat → Bool} (h : OrdI l N R p) (c : Nat) : (p c && nob p (ahd l) c) = true ↔ Fre (eB l) N R c := by
  rw [Bool.and_eq_true, nob_iff hg h, h.lft]
  simp [Fre, and_assoc]
theorem OrdI.step {l : List Ed} {N : Nat} (hg : Gr N l) {R : List Nat} {p : Nat → Bool} (h : OrdI l N R p) (h0 : bs (fun i => p i && nob p (ahd l) i) 60 ≠ 0) :
    ∃ c, Lib.ctz 64 (bs (fun i => p i && nob p (ahd l) i) 60) = c ∧ c < 60 ∧ OrdI l N (R ++ [c]) (fun j => p j && !decide (j = c)) := by
  obtain ⟨a1, a2, _⟩ := low_bit h0 (bs_lt64 _)
  refine ⟨_, rfl, ?_⟩
  generalize Lib.ctz 64 (bs (fun i => p i && nob p (ahd l) i) 60) = c at *
  rw [testBit_bs] at a1
  rw [Bool.and_eq_true] at a1
  have hc60 : c < 60 := by simpa using a1.1
  have hf := (h.fre hg c).1 a1.2
  refine ⟨hc60, .snoc h.grd hf fun d hd hfd => ?_, fun j => ?_, ?_⟩
  · have := a2 d hd
    rw [testBit_bs] at this
    have h2 := (h.fre hg d).2 hfd
    simp only [h2, Bool.and_true] at this
    simp at this
    omega
  · rw [h.lft, Bool.eq_iff_iff]
    simp
    constructor
    · rintro ⟨⟨h1, h2⟩, h3⟩; exact ⟨h1, h2, h3⟩
    · rintro ⟨h1, h2, h3⟩; exact ⟨⟨h1, h2⟩, h3⟩
  · have hpc : p c = true := by have := a1.2; rw [Bool.and_eq_true] at this; exact this.1
    have := bl_erase hpc hc60
    have := h.len
    simp
    omega
theorem OrdI.no {l : List Ed} {N : Nat} (hg : Gr N l) {R : List Nat} {p : Nat → Bool} (h : OrdI l N R p) (hp : bs p 60 ≠ 0) (h0 : bs (fun i => p i && nob p (ahd l) i) 60 = 0) : ∃ i, Rch (eB l) i i := by
  have hz := bs_zero.1 h0
  have hex : ∃ c, c < N ∧ c ∉ R := by
    refine Classical.byContradiction fun hno => hp (bs_zero.2 fun j _ => ?_)
    rw [h.lft]
    simp
    intro hj
    exact Classical.byContradiction fun hn => hno ⟨j, hj, hn⟩
  obtain ⟨c, hc, hcR⟩ := hex
  refine Gm.stuck hg (fun d hd hdR => ?_) hc hcR
  refine Classical.byContradiction fun hno => ?_
  have hf : Fre (eB l) N R d := ⟨hd, hdR, fun j hj => Classical.byContradiction fun hn => hno ⟨j, hj, hn⟩⟩
  have := hz d (by have := hg.n60; omega)
  rw [(h.fre hg d).2 hf] at this
  cases this

theorem below_app {B Bq : Nat} {w w4 w5 : World} {o : Obj} {v : Value} {n : Nat} {e : TypeId} {k : Nat} {xs : List Value} (h : Below B w w4) (hr : w4.ownsRow Bq e k v n xs) (hg : (w4.alloc o).grownBy w5 v.ownBlock) (hB : B ≤ Bq) (hs : Bq ≤ w4.heap.size) : Below B w w5 := by
  refine ⟨hg.os.trans h.os, hg.tape.trans h.tape, hg.output.trans h.output, ?_, fun k hk => ?_⟩
  · have h1 := hg.size
    have h2 := h.size
    simp at h1
    omega
  · rw [hg.block k (by simp; omega) (fun e => by have := (hr.lt k e.symm).1; omega), Below.heap_alloc _ _ _ (by omega), h.block k hk]
theorem app_other {Bq b1 : Nat} {w4 w5 : World} {o ob : Obj} {v : Value} {n : Nat} {e : TypeId} {k : Nat} {xs : List Value} (hr : w4.ownsRow Bq e k v n xs) (hg : (w4.alloc o).grownBy w5 v.ownBlock) (h1 : w4.heap[b1]? = some ob) (hb : b1 < Bq) : w5.heap[b1]? = some ob := by
  have hl := (Array.getElem?_eq_some_iff.1 h1).1
  rw [hg.block b1 (by simp; omega) (fun e => by have := (hr.lt b1 e.symm).1; omega), Below.heap_alloc _ _ _ hl, h1]

set_option maxHeartbeats 2000000 in
set_option maxRecDepth 100000 in
theorem order_run {N : Nat} {w : World} {q : Option Addr} {l : List Ed} {cap : Nat} (h : Eds w q l) (hZ : TabZ w) (h0 : chk N l = 0) :
    Calls Tryd.prog 21 #[.int .i64 (N : Int), .slice q l.length cap] w fun e w' => OrdO l N w.heap.size e w' ∧ Below w.heap.size w w' := by
  have hc := check_any (cap := cap) (N : Int) h
  rw [h0] at hc
  have hok := chk_60 h0
  have hg : Hid (Gr N l) := by have h3 := chk_gr h0; rw [Int.toNat_natCast] at h3; exact h3
  have hlen' : Hid (l.length ≤ 400) := (chk_ok h0).2.2.1
  have hN : Hid (N ≤ 60) := by have := (chk_ok h0).2.1; show _ ≤ _; omega
  clear h0
  go_enter Tryd.func21, Tryd.ntmps21
  go_wp2_with (first
    | (go_at_call 18; refine hc.mono ?_; rintro e w1 ⟨rfl, hb1⟩; clear hc)
    | go_in)
  rw [lk_zero]
  have hn1 := heap_alloc_new w1 (.cells (lk fun _ _ => false) 76)
  have hB1 : Below w.heap.size w (w1.alloc (.cells (lk fun _ _ => false) 76)) := hb1.alloc hb1.size _
  have hEr := h.below hb1 (Nat.le_refl _)
  have hbase : Hid (w.heap.size ≤ w1.heap.size) := hb1.size
  have hE : Hid (∀ wr, Below w.heap.size w wr → Eds wr q l) := fun wr hb => h.below hb (Nat.le_refl _)
  have hZb : Hid (∀ wr, Below w.heap.size w wr → TabZ wr) := fun wr hb => hZ.below hb (Nat.le_refl _)
  clear hEr hb1 h hZ
  generalize w1.alloc (.cells (lk fun _ _ => false) 76) = w2 at *
  generalize w1.heap.size = b1 at *
  go_loopw [21] (fun iv wr => ∃ j : Nat, iv = .int .i64 j ∧ j ≤ l.length ∧ wr.heap[b1]? = some (.cells (lk (ahd (l.take j))) 76 (0, 0)) ∧ Below w.heap.size w wr)
    (fun iv _ => l.length - (intOf iv).toNat)
  case atStart => exact ⟨0, rfl, Nat.zero_le _, hn1, hB1⟩
  case round =>
    clear hn1 hB1
    obtain ⟨j, rfl, hjl, hk1, hbl⟩ := hrel
    have hsz1 : b1 < wr.heap.size := (Array.getElem?_eq_some_iff.1 hk1).1
    by_cases hj : j < l.length
    · rcases hE.out wr hbl with hh0 | ⟨b, o, rfl, hAr⟩
      · omega
      have z0 := hAr.cf j hj
      have z1 := hAr.ct j hj
      obtain ⟨F, hF⟩ : ∃ F : Nat, (ed l j).f = F := ⟨((ed l j).f).toNat, by have := hok _ (ed_mem hj); omega⟩
      obtain ⟨T, hT⟩ : ∃ T : Nat, (ed l j).t = T := ⟨((ed l j).t).toNat, by have := hok _ (ed_mem hj); omega⟩
      have hF60 : F < 60 := by have := hok _ (ed_mem hj); omega
      have hT60 : T < 60 := by have := hok _ (ed_mem hj); omega
      rw [hF] at z0
      rw [hT] at z1
      have hji : (j : Int) < (l.length : Int) := by omega
      have hj2 : Hid (j ≤ 100000) := by have := hlen'.out; show _ ≤ _; omega
      have hstep : Hid (lk (upd (ahd (l.take j)) T (fun k => ahd (l.take j) T k || decide (k = F))) = lk (ahd (l.take (j + 1)))) := lk_congr fun a k _ _ => by
        unfold ahd
        rw [Gm.take_snoc hj, eB_snoc, hF, hT]
        unfold upd
        by_cases e : a = T
        · subst e
          simp
          congr 1
          rw [decide_eq_decide]
          omega
        · have : ¬ ((T : Int) = a) := by omega
          simp [e, this]
      have hor := or_bs (ahd (l.take j) T) (fun k => decide (k = F))
      have hTi : (T : Int) < 60 := by omega
      have c1 : wr.cell? ⟨b1, T, none⟩ = some (.int .u64 ((bs (ahd (l.take j) T) 60 : Nat) : Int)) := (cell_of_row wr b1 T _ _ _ hk1).trans (lk_get _ hT60)
      have f1 : wr.frozen? ⟨b1, T, none⟩ = false := by simp [World.frozen?, hk1]
      have c1a := cell_alloc c1 (.cells #[.int .i64 (F : Int), .int .i64 (T : Int)] 52)
      have f1a : (wr.alloc (.cells #[.int .i64 (F : Int), .int .i64 (T : Int)] 52)).frozen? ⟨b1, T, none⟩ = false := (World.frozen?_of_block (w := wr) (a := ⟨b1, T, none⟩) (Below.heap_alloc wr _ b1 hsz1)).trans f1
      have hk1a := Below.heap_alloc wr (.cells #[.int .i64 (F : Int), .int .i64 (T : Int)] 52) b1 hsz1
      have hbz : Hid (Below w.heap.size w (wr.alloc (.cells #[.int .i64 (F : Int), .int .i64 (T : Int)] 52))) := hbl.alloc hbl.size _
      have hn := heap_alloc_new wr (.cells #[.int .i64 (F : Int), .int .i64 (T : Int)] 52)
      have hone := fun w => oneS_any F w hF60
      clear hAr hok hF hT c1 f1 hE hZb
      generalize bs (fun k => decide (k = F)) 60 = o1 at *
      go_wp2
      clear z0 z1
      have hK1 : Hid ((wr.alloc (.cells #[.int .i64 (F : Int), .int .i64 (T : Int)] 52)).heap[b1]? = some (.cells (lk (ahd (l.take j))) 76 (0, 0))) := hk1a.trans hk1
      clear hk1a hk1 hbl
      generalize wr.alloc (.cells #[.int .i64 (F : Int), .int .i64 (T : Int)] 52) = wz at *
      generalize wr.heap.size = hc at *
      have k0 : wz.cell? ⟨hc, 0, none⟩ = some (.int .i64 (F : Int)) := (cell_of_row _ _ 0 _ _ _ hn).trans rfl
      have k1 : wz.cell? ⟨hc, 1, none⟩ = some (.int .i64 (T : Int)) := (cell_of_row _ _ 1 _ _ _ hn).trans rfl
      clear hn
      refine wp_region_still_tail 9 (by kernel_rfl) (by kernel_rfl) ?_
      simp only [List.take_succ_cons, List.take_zero, List.drop_succ_cons, List.drop_zero]
      repeat (first | still_step | still_call (hone _))
      refine wpStill_nil ?_
      change wpList _ _ _ _ _ (World.drew wz)
      have c1d : wz.drew.cell? ⟨b1, T, none⟩ = some (.int .u64 ((bs (ahd (l.take j) T) 60 : Nat) : Int)) := c1a
      have f1d : wz.drew.frozen? ⟨b1, T, none⟩ = false := f1a
      clear k0 k1 c1a f1a
      go_wp2
      refine ⟨⟨j + 1, ?_, hj, ?_, ?_⟩, ?_⟩
      · first | exact int_succ j | exact int_wsucc hj2.out
      · rw [← hstep.out, ← lk_set]
        have := heap_setCell_same wz b1 T _ _ (.int .u64 ((bs (fun k => ahd (l.take j) T k || decide (k = F)) 60 : Nat) : Int)) hK1.out
        exact this
      · exact (hbz.out.setCell (by show w.heap.size ≤ b1; have := hbase.out; omega) _).drew
      · first | exact meas_1 hj | exact meas_w hj hj2.out
    · have hji : ¬ (j : Int) < (l.length : Int) := by omega
      have e : j = l.length := by omega
      subst e
      rw [List.take_length] at hk1
      have hfi := fun w => first_any N w hN.out
      clear hok hE
      go_wp2_with (first
        | (at_make; obtain ⟨i0, hi, hz0, hz1, hz2⟩ := info_parts info_int; refine wpList_make_own _ rfl _ _ 47 rfl wr.heap.size 3 i0 (.int .i64 0) 1 Tryd.underlying47 hi hz0 hz1 _ _ _ N rfl rfl rfl (by rw [hz2]; have := hN.out; omega) (by unfold maxLen; have := hN.out; omega) (Nat.le_refl _) ?_; intro w3 hown3 hgrow3; clear hi hz0 hz1 hz2)
        | (go_at_call 35; refine (hfi _).mono ?_; rintro e w' ⟨rfl, hw'⟩; have hw'' := hw'.symm; subst hw''; clear hfi)
        | go_in)
      have hB3 : Hid (Below w.heap.size w w3) := hbl.trans ⟨hgrow3.os, hgrow3.tape, hgrow3.output, hgrow3.size, fun k hk => hgrow3.block k (by have := hbl.size; omega) (by simp)⟩
      have hk3 : Hid (w3.heap[b1]? = some (.cells (lk (ahd l)) 76 (0, 0))) := (hgrow3.block b1 hsz1 (by simp)).trans hk1
      have hs3 : Hid (wr.heap.size ≤ w3.heap.size) := hgrow3.size
      have hbB : Hid (b1 < wr.heap.size ∧ w.heap.size ≤ wr.heap.size) := ⟨hsz1, hbl.size⟩
      clear hgrow3 hbl hk1 hsz1
      generalize wr.heap.size = Bq at *
      go_loopw [10, 11] (fun rv lv wq => ∃ (R : List Nat) (p : Nat → Bool) (q2 : Option Addr) (c : Nat), rv = .slice q2 R.length c ∧ lv = .int .u64 ((bs p 60 : Nat) : Int) ∧ OrdI l N R p ∧ wq.ownsRow Bq 3 1 (.slice q2 R.length c) R.length (ints R) ∧ wq.heap[b1]? = some (.cells (lk (ahd l)) 76 (0, 0)) ∧ Below w.heap.size w wq ∧ Bq ≤ wq.heap.size)
        (fun rv _ _ => 64 - lenOf' rv)
      case atStart => exact ⟨[], _, _, _, rfl, rfl, OrdI.start l hN.out, hown3, hk3.out, hB3.out, hs3.out⟩
      case round =>
        clear hown3 hk3 hB3 hs3
        obtain ⟨R, p, q2, c, rfl, rfl, hI, hown, hk1, hbl, hBq⟩ := hrel
        have hRl : R.length ≤ 60 := by have := hI.len; have := hN.out; omega
        have hIH : Hid (OrdI l N R p) := hI
        by_cases hp0 : bs p 60 = 0
        · obtain ⟨hRN, hall⟩ := hI.done hN.out hp0
          have hz : ((bs p 60 : Nat) : Int) = 0 := by rw [hp0]; rfl
          have hallH : Hid (∀ j, j < N → j ∈ R) := hall
          have hRNH : Hid (R.length = N) := hRN
          clear hI hp0 hall hRN
          generalize ((bs p 60 : Nat) : Int) = x at *
          go_wp2
          go_ret2
          have hRN := hRNH.out
          refine ⟨Or.inl ⟨R, q2, c, by rw [← hRN]; rfl, ?_, hRN, hIH.out.grd, hallH.out⟩, hbl⟩
          rw [← hRN]
          exact ⟨hown.1, hown.2.imp id fun ⟨g, cap, cur, hv, hb, r⟩ => ⟨g, cap, cur, hv, Nat.le_trans hbB.out.2 hb, r⟩⟩
        · have hfree := free_any p (ahd l) wr (hZb.out wr hbl)
          have hnz : ((((bs p 60 : Nat) : Int)) == 0) = false := by simp; omega
          have hand := fun c => andNot_bs p (fun j => decide (j = c))
          by_cases hf0 : bs (fun i => p i && nob p (ahd l) i) 60 = 0
          · have hcyc : Hid (∃ i, Rch (eB l) i i) := hI.no hg.out hp0 hf0
            rw [hf0] at hfree
            clear hI hp0 hf0 hand
            generalize bs p 60 = x at *
            go_wp2_with (first
              | (refine wpList_load_row rfl 76 _ rfl _ rfl _ _ _ _ hk1 Tryd.underlying76 rfl (lk_info _) ?_)
              | (go_at_call 36; refine hfree.mono ?_; rintro e w4 ⟨rfl, hb4⟩; clear hfree)
              | go_in)
            go_ret2
            exact ⟨Or.inr ⟨rfl, hcyc.out⟩, hbl.trans (hb4.mono hbl.size)⟩
          · obtain ⟨x, hx, hx60, hI2⟩ := hI.step hg.out hf0
            have hfnz : ((((bs (fun i => p i && nob p (ahd l) i) 60 : Nat) : Int)) == 0) = false := by simp; omega
            have hfl := bs_lt64 (fun i => p i && nob p (ahd l) i)
            have hle : Hid (∀ w4, Below w.heap.size w w4 → Calls Tryd.prog 37 #[.int .u64 ((bs (fun i => p i && nob p (ahd l) i) 60 : Nat) : Int)] w4 fun e w' => e = .returned (.int .i64 (x : Int)) ∧ w' = w4) := fun w4 hb => by
              have := least_any _ w4 (hZb.out w4 hb) hf0 hfl
              rwa [hx] at this
            have hone := fun w => oneS_any x w hx60
            have hand' := hand x
            have hIH2 : Hid (OrdI l N (R ++ [x]) (fun j => p j && !decide (j = x))) := hI2
            clear hI hp0 hf0 hand hfl hI2 hx
            generalize bs (fun i => p i && nob p (ahd l) i) 60 = f at *
            generalize bs (fun j => decide (j = x)) 60 = o1 at *
            generalize hy : bs (fun j => p j && !decide (j = x)) 60 = y at *
            have hyH : Hid (bs (fun j => p j && !decide (j = x)) 60 = y) := hy
            clear hy
            generalize bs p 60 = z at *
            go_wp2_with (first
              | (refine wpList_load_row rfl 76 _ rfl _ rfl _ _ _ _ hk1 Tryd.underlying76 rfl (lk_info _) ?_)
              | (go_at_call 36; refine hfree.mono ?_; rintro e w4 ⟨rfl, hb4⟩; have hB4 : Below w.heap.size w w4 := hbl.trans (hb4.mono hbl.size); have hlst := hle.out w4 hB4; have hown4 := row_below hown hb4; have hk4 := (hb4.block b1 (Array.getElem?_eq_some_iff.1 hk1).1).trans hk1; have hs4 : Bq ≤ w4.heap.size := Nat.le_trans hBq hb4.size; clear hfree)
              | (go_at_call 37; first
                  | (refine hlst.mono ?_; rintro e w' ⟨rfl, hw'⟩; have hw'' := hw'.symm; subst hw''; clear hlst)
                  | (refine (hle.out w5 hB5).mono ?_; rintro e w' ⟨rfl, hw'⟩; have hw'' := hw'.symm; subst hw''))
              | (at_builtin; obtain ⟨i0, hi, hz0, hz1, hz2⟩ := info_parts info_int; refine wpList_append_own _ rfl _ _ 47 rfl Bq 3 i0 (.int .i64 0) 1 8 Tryd.underlying47 hi hz0 hz1 hz2 rfl (by decide) _ _ _ rfl (hown4.alloc _) ⟨w4.heap.size, 0, none⟩ 1 1 [.int .i64 (x : Int)] rfl rfl (cells_new _ _ _) (fun v hv => by simp at hv; subst hv; rfl) (by unfold maxLen; omega) (by omega) (by simp; omega) ?_; intro v' w5 hown5 hgrow5 hnil5; clear hi hz0 hz1 hz2 hnil5; obtain ⟨g5, cap5, rfl⟩ := form_succ hown5; have hgA : (w4.alloc (.cells #[.int .i64 (x : Int)] 3)).grownBy w5 (Value.ownBlock (.slice q2 R.length c)) := hgrow5; have hB5 : Below w.heap.size w w5 := below_app hB4 hown4 hgA hbB.out.2 hs4; have hk5 : w5.heap[b1]? = some (.cells (lk (ahd l)) 76 (0, 0)) := app_other hown4 hgA hk4 hbB.out.1)
              | (go_at_call 34; refine (hone _).mono ?_; rintro e w' ⟨rfl, hw'⟩; have hw'' := hw'.symm; subst hw'')
              | go_in)
            have hl1 : (R ++ [x]).length = R.length + 1 := by simp
            refine ⟨⟨R ++ [x], _, some ⟨g5, 0, none⟩, cap5, by rw [hl1], by rw [hyH.out], hIH2.out, ?_, hk5, hB5, ?_⟩, ?_⟩
            · rw [hl1]
              simp only [ints, List.map_append, List.map_cons, List.map_nil]
              exact hown5
            · have := hgA.size
              simp at this
              omega
            · simp [lenOf']; omega

set_option maxRecDepth 100000 in
theorem order_bad {n : Int} {w : World} {q : Option Addr} {l : List Ed} {cap : Nat} (h : Eds w q l) (hne : chk n l ≠ 0) :
    Calls Tryd.prog 21 #[.int .i64 n, .slice q l.length cap] w fun e w' => e = .returned (.tuple #[.slice none 0 0, .int .i64 (chk n l)]) ∧ Below w.heap.size w w' := by
  have hc := check_any (cap := cap) n h
  generalize chk n l = ev at *
  clear h
  go_enter Tryd.func21, Tryd.ntmps21
  go_wp2_with (first | (go_at_call 18; refine hc.mono ?_; rintro e w1 ⟨rfl, hb1⟩; clear hc) | go_in)
  go_ret2
  exact ⟨rfl, hb1⟩

/-- Order, where nothing comes behind itself. -/
theorem order_yes {N : Nat} {w : World} {q : Option Addr} {l : List Ed} {cap : Nat} (h : Eds w q l) (hZ : TabZ w) (h0 : chk N l = 0) (hac : ∀ i, ¬ Rch (eB l) i i) :
    Calls Tryd.prog 21 #[.int .i64 (N : Int), .slice q l.length cap] w fun e w' => ∃ (R : List Nat) (p : Option Addr) (c : Nat), e = .returned (.tuple #[.slice p N c, .int .i64 0]) ∧ (w'.ownsRow w.heap.size 3 1 (.slice p N c) N (ints R) ∧ R.length = N ∧ Grd (eB l) N R ∧ ∀ j, j < N → j ∈ R) ∧ Below w.heap.size w w' :=
  (order_run h hZ h0).mono fun e w' ⟨ho, hb⟩ => by
    rcases ho with ⟨R, p, c, he, h1, h2, h3, h4⟩ | ⟨_, i, hi⟩
    · exact ⟨R, p, c, he, ⟨h1, h2, h3, h4⟩, hb⟩
    · exact absurd hi (hac i)
/-- Order, where something does. -/
theorem order_no {N : Nat} {w : World} {q : Option Addr} {l : List Ed} {cap : Nat} (h : Eds w q l) (hZ : TabZ w) (h0 : chk N l = 0) (hcy : ∃ i, Rch (eB l) i i) :
    Calls Tryd.prog 21 #[.int .i64 (N : Int), .slice q l.length cap] w fun e w' => e = .returned (.tuple #[.slice none 0 0, .int .i64 8]) ∧ Below w.heap.size w w' :=
  (order_run h hZ h0).mono fun e w' ⟨ho, hb⟩ => by
    rcases ho with ⟨R, p, c, he, h1, h2, h3, h4⟩ | ⟨he, _⟩
    · obtain ⟨i, hi⟩ := hcy
      have hg := chk_gr h0
      rw [Int.toNat_natCast] at hg
      exact absurd hi (h3.acyclic hg h4 i)
    · exact ⟨he, hb⟩

/-- The graph with which the laws ask whether the program is alive: one edge, from 1 to 0. -/
def aliveG : List Ed := [⟨1, 0⟩]
theorem alive_row {R : List Nat} (h : Grd (eB aliveG) 2 R) (hl : R.length = 2) : ∃ b, R = [1, b] := by
  cases h with
  | nil => simp at hl
  | @snoc R1 c1 h1 f1 m1 =>
    cases h1 with
    | nil => simp at hl
    | @snoc R2 c2 h2 f2 m2 =>
      have : R2 = [] := List.eq_nil_of_length_eq_zero (by simpa using hl)
      subst this
      refine ⟨c1, ?_⟩
      have hc2 : c2 < 2 := f2.1
      rcases (show c2 = 0 ∨ c2 = 1 by omega) with rfl | rfl
      · have := f2.2.2 1 (by decide)
        simp at this
      · rfl

end Go.Proofs.YthfpdbogbmccjaaDoor
