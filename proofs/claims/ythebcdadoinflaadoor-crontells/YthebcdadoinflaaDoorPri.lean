/- What the functions of package cron that tell runs and sets, and Print, answer: contracts, each proved by a walk over its own text. -/
import Derived.Test.YthebcdadoinflaaDoorRde
import Derived.Test.YthebcdadoinflaaDoorPrn
import Derived.Maps.AppendAt
import Derived.BigCall
namespace Go.Proofs.YthebcdadoinflaaDoor
open Go.RowKit Cal Crn Txt

theorem grow_below (w : World) (k : Nat) (os : Array Obj) : Below w.heap.size w (Sort.grow (w.drewN k) os) :=
  ⟨rfl, rfl, rfl, by simp [Sort.size_grow], fun j hj => Sort.heap_grow_old (w.drewN k) os hj⟩
theorem then_below {a b c : World} (h : Below a.heap.size a b) (k : Below b.heap.size b c) : Below a.heap.size a c := h.trans (k.mono h.size)
theorem owns_below {w w' : World} {base size n : Nat} {e : TypeId} {v : Value} {xs : List Value} (h : w.ownsRow base e size v n xs) (hb : Below w.heap.size w w') : w'.ownsRow base e size v n xs := by
  refine ⟨h.1, ?_⟩
  rcases h.2 with h2 | ⟨g, cap, cur, h1, h2, h3, h4⟩
  · exact Or.inl h2
  · refine Or.inr ⟨g, cap, cur, h1, h2, ?_, h4⟩
    have hg : g < w.heap.size := by
      rcases Nat.lt_or_ge g w.heap.size with l | l
      · exact l
      · have e : w.heap[g]? = none := by simp; exact l
        rw [e] at h3
        cases h3
    rw [hb.block g hg]
    exact h3
theorem str_ret {a b : ByteArray} (h : a = b) : Ending.returned (.string a) = .returned (.string b) := by rw [h]

theorem itoa_any (n : Nat) (hn : n < 64) (w : World) (hT : Tx w) :
    Calls Tryd.prog 39 #[.int .i64 n] w fun e w' => e = .returned (.string ⟨(dec n).toArray⟩) ∧ Below w.heap.size w w' := by
  refine (Tryd.strconv_Itoa (n : Int) (by omega) (by omega) w hT.p).mono ?_
  rintro e w1 ⟨rfl, k, os, rfl⟩
  rw [Lib.itoa_nonneg, dec_eq (by omega)]
  exact ⟨rfl, grow_below w k os⟩

set_option maxHeartbeats 800000 in
theorem runText_one (f : Nat) (hf : f < 64) (w : World) (hT : Tx w) :
    Calls Tryd.prog 27 #[.int .i64 f, .int .i64 f] w fun e w' => e = .returned (.string ⟨(dec f).toArray⟩) ∧ Below w.heap.size w w' := by
  go_enter Tryd.func27, Tryd.ntmps27
  go_wp2_with fail
  refine (itoa_any f hf _ hT).mono ?_
  rintro e w1 ⟨rfl, hb⟩
  go_wp2_with fail
  go_ret
  exact ⟨rfl, hb⟩
set_option maxHeartbeats 800000 in
theorem runText_two (f t : Nat) (hf : f < t) (ht : t < 64) (w : World) (hT : Tx w) :
    Calls Tryd.prog 27 #[.int .i64 f, .int .i64 t] w fun e w' => e = .returned (.string ⟨(dec f ++ 45 :: dec t).toArray⟩) ∧ Below w.heap.size w w' := by
  have l1 := (dec_free f (by omega)).2.2.2.2.2
  have l2 := (dec_free t (by omega)).2.2.2.2.2
  have cf := itoa_any f (by omega) w hT
  have ct := fun w' hT' => itoa_any t ht w' hT'
  generalize dec f = a at *
  generalize dec t = b at *
  go_enter Tryd.func27, Tryd.ntmps27
  go_wp2_with fail
  refine cf.mono ?_
  rintro e w1 ⟨rfl, hb⟩
  have hT1 := hT.below hb (Nat.le_refl _)
  go_wp2_with fail
  refine (ct _ hT1).mono ?_
  rintro e w2 ⟨rfl, hb2⟩
  go_wp2_with fail
  go_ret
  exact ⟨str_ret (by rw [show (#[45] : Array UInt8) = [45].toArray from rfl, ByteArray.mk_append_mk, ByteArray.mk_append_mk]; simp), then_below hb hb2⟩
theorem runText_any (f t : Nat) (hf : f ≤ t) (ht : t < 64) (w : World) (hT : Tx w) :
    Calls Tryd.prog 27 #[.int .i64 f, .int .i64 t] w fun e w' => e = .returned (.string ⟨(rtx (f, t)).toArray⟩) ∧ Below w.heap.size w w' := by
  unfold rtx
  by_cases e : f = t
  · subst e
    rw [if_pos rfl]
    exact runText_one f ht w hT
  · rw [if_neg e]
    exact runText_two f t (by omega) ht w hT

def cellsR (acc : List (Nat × Nat)) : List Value := acc.map fun p => Value.string ⟨(rtx p).toArray⟩

set_option maxHeartbeats 400000 in
theorem setText_star (s : Nat) (w : World) :
    Calls Tryd.prog 14 #[.int .u64 s, .int .u64 s] w fun e w' => e = .returned (.string ⟨#[42]⟩) ∧ w' = w := by
  go_enter Tryd.func14, Tryd.ntmps14
  go_wp2
  go_ret
  exact ⟨rfl, rfl⟩
theorem info_str : (Tryd.prog.info? 9).map (fun i => (i.zero, i.size, i.bytes)) = some (some (.string ByteArray.empty), 1, 16) := by kernel_rfl

theorem xor_max {x : Nat} (hx : x < 18446744073709551616) : bits BinOp.xor IntKind.u64 IntKind.u64.max (x : Int) = ((18446744073709551615 - x : Nat) : Int) := by
  rw [show (IntKind.u64.max : Int) = ((18446744073709551615 : Nat) : Int) from rfl, u64_xor_nat _ _ (by omega) hx]
  congr 1
  apply Nat.eq_of_testBit_eq
  intro j
  rw [Nat.testBit_xor, not_bit hx]
  have e := not_bit (x := 0) (by omega) j
  rw [Nat.sub_zero] at e
  rw [e]
  by_cases h : j < 64
  · rw [decide_eq_true h]; simp
  · rw [decide_eq_false h, Nat.testBit_lt_two_pow (Nat.lt_of_lt_of_le hx (Nat.pow_le_pow_right (n := 2) (by omega) (show 64 ≤ j by omega)))]
    rfl
theorem map_rtx (acc : List (Nat × Nat)) : ((acc.map fun p => ByteArray.mk (rtx p).toArray).map (·.data.toList)) = acc.map rtx := by
  rw [List.map_map]
  apply List.map_congr_left
  intro p _
  simp
theorem owns_open {w : World} {base : Nat} {e : TypeId} {ao : Option Addr} {cv : Nat} {acc : List (Nat × Nat)} (h : w.ownsRow base e 1 (.slice ao acc.length cv) acc.length (cellsR acc)) (hn : 0 < acc.length) :
    ∃ g cap, Value.slice ao acc.length cv = .slice (some ⟨g, 0, none⟩) acc.length cap ∧ (∀ (j : Nat) x, (acc.map fun p => ByteArray.mk (rtx p).toArray)[j]? = some x → w.cell? ⟨g, j, none⟩ = some (.string x)) ∧ g < w.heap.size ∧ acc.length ≤ cap := by
  rcases h.2 with ⟨_, h2⟩ | ⟨g, cap, cur, h1, _, h3, h4, _, h5, h6⟩
  · omega
  · refine ⟨g, cap, h1, ?_, ?_, h4⟩
    · intro j x hx
      have hj : j < acc.length := by
        have := (List.getElem?_eq_some_iff.1 hx).1
        simpa using this
      have e1 : (cellsR acc)[j]? = some (.string x) := by
        rw [List.getElem?_map] at hx
        unfold cellsR
        rw [List.getElem?_map]
        cases hq : acc[j]? with
        | none => rw [hq] at hx; cases hx
        | some p => rw [hq] at hx; simp at hx ⊢; exact hx
      rw [← h6, List.getElem?_take_of_lt (by omega)] at e1
      simp [World.cell?, h3]
      simpa using e1
    · rcases Nat.lt_or_ge g w.heap.size with l | l
      · exact l
      · have e : w.heap[g]? = none := by simp; exact l
        rw [e] at h3
        cases h3
theorem cellsR_snoc (acc : List (Nat × Nat)) (p : Nat × Nat) : cellsR (acc ++ [p]) = cellsR acc ++ [.string ⟨(rtx p).toArray⟩] := by simp [cellsR]
set_option maxHeartbeats 4000000 in
theorem setText_runs (s all : Nat) (hs : s < 9223372036854775808) (h0 : s ≠ 0) (hne : ((s : Int) == (all : Int)) = false) (w : World) (hT : Tx w) :
    Calls Tryd.prog 14 #[.int .u64 s, .int .u64 all] w fun e w' => e = .returned (.string ⟨(Lib.join ((rns s).map rtx) [44]).toArray⟩) ∧ Below w.heap.size w w' := by
  have hlen := rns_le hs
  have HS : Hid (s < 9223372036854775808) := hs
  clear hs
  go_enter Tryd.func14, Tryd.ntmps14
  go_wp2_with fail
  go_loopw [0, 5] (fun a v wr => ∃ (cur : Nat) (acc : List (Nat × Nat)) (ao : Option Addr) (cv : Nat), a = .int .u64 cur ∧ Hid (cur < 9223372036854775808) ∧ v = .slice ao acc.length cv ∧ Hid (acc ++ rns cur = rns s) ∧ wr.ownsRow w.heap.size 9 1 v acc.length (cellsR acc) ∧ Below w.heap.size w wr) (fun a _ _ => (intOf a).toNat)
  case atStart => exact ⟨s, [], none, 0, rfl, HS, rfl, rfl, World.ownsRow_nil _ _ _ _, Below.refl _ _⟩
  case round =>
    obtain ⟨cur, acc, ao, cv, rfl, HC, rfl, hacc, hown, hB⟩ := hrel
    have hTr := hT.below hB (Nat.le_refl _)
    have hsz := hB.size
    by_cases hc0 : cur = 0
    · subst hc0
      have he : acc = rns s := by
        have := hacc.out
        rw [rns_zero, List.append_nil] at this
        exact this
      have hpos : 0 < acc.length := by rw [he, rns_step h0 HS.out]; simp
      have HE : Hid (acc = rns s) := he
      clear he
      obtain ⟨g, cap, hv, hcells, hgl, hcap⟩ := owns_open hown hpos
      have hlj : (Lib.join ((acc.map fun p => ByteArray.mk (rtx p).toArray).map (·.data.toList)) [44]).length ≤ 140737488355328 := by
        have h1 := stx_free (all := all) HS.out
        rw [map_rtx, HE.out]
        unfold stx at h1
        rw [if_neg (by intro e; rw [e] at hne; simp at hne)] at h1
        omega
      have hl63 : acc.length ≤ 63 := by rw [HE.out]; exact hlen
      have cj := Tryd.strings_Join g 0 cap (acc.map fun p => ByteArray.mk (rtx p).toArray) ⟨#[44]⟩ wr (by intro j x hx; rw [Nat.zero_add]; exact hcells j x hx) hgl (by rw [List.length_map]; omega) (by rw [List.length_map]; exact hcap) hlj
      rw [List.length_map, show (ByteArray.mk #[44]).data.toList = [44] from rfl, map_rtx] at cj
      cases hv
      go_wp2_with fail
      refine cj.mono ?_
      rintro e w2 ⟨rfl, hb2⟩
      go_wp2_with fail
      go_ret
      exact ⟨str_ret (by rw [HE.out]), then_below hB hb2⟩
    · have hcz : ((cur : Int) == 0) = false := nz hc0
      have hz := zz_pos hc0 HC.out
      have ht := run_top hc0 HC.out
      have hct := ctz_lt hc0 (by have := HC.out; omega)
      have hc64 : cur < 18446744073709551616 := by have := HC.out; omega
      have hfirst := first_any cur wr hTr.z hc0 hc64
      have htz := tz_any (18446744073709551615 - cur / 2 ^ Lib.ctz 64 cur) wr hTr.z (zz_ne HC.out) (sub_lt _)
      clear hc64
      rw [show Lib.ctz 64 (18446744073709551615 - cur / 2 ^ Lib.ctz 64 cur) = zz cur from rfl] at htz
      go_wp2_with (first | (go_at_call 25; refine hfirst.mono ?_; rintro e w' ⟨rfl, rfl⟩))
      rw [div_cast, xor_max (by have := HC.out; have := Nat.div_le_self cur (2 ^ Lib.ctz 64 cur); omega)]
      refine htz.mono ?_
      rintro e w' ⟨rfl, rfl⟩
      clear hfirst htz
      have hstep := rns_step hc0 HC.out
      have HST : Hid (rns cur = (Lib.ctz 64 cur, Lib.ctz 64 cur + zz cur - 1) :: rns (nx cur)) := hstep
      have HAN : Hid (cur &&& (18446744073709551615 - spn (Lib.ctz 64 cur : Nat) ((Lib.ctz 64 cur + zz cur - 1 : Nat) : Int) 1) = nx cur) := run_andNot hc0 HC.out
      have HNL : Hid (nx cur < cur) := nx_lt hc0 HC.out
      have hal : acc.length + 1 ≤ 63 := by
        have h1 := congrArg List.length hacc.out
        rw [hstep, List.length_append, List.length_cons] at h1
        omega
      clear hstep
      have hpe : ((Lib.ctz 64 cur : Nat) : Int) + ((zz cur : Nat) : Int) - 1 = ((Lib.ctz 64 cur + zz cur - 1 : Nat) : Int) := by omega
      have hf63 : Lib.ctz 64 cur ≤ Lib.ctz 64 cur + zz cur - 1 := by omega
      have ht63 : Lib.ctz 64 cur + zz cur - 1 < 64 := by omega
      go_wp2_with fail
      clear hpe
      generalize Lib.ctz 64 cur + zz cur - 1 = t at *
      generalize Lib.ctz 64 cur = f at *
      refine (runText_any f t hf63 ht63 _ hTr).mono ?_
      rintro e w2 ⟨rfl, hb2⟩
      have hown2 := owns_below hown hb2
      have hB2 := hB.trans (hb2.mono hsz)
      have hsz2 := hB2.size
      generalize hrt : ByteArray.mk (rtx (f, t)).toArray = rt at *
      have HRT : Hid (ByteArray.mk (rtx (f, t)).toArray = rt) := hrt
      clear hrt
      go_wp2_with (first
        | (at_builtin; obtain ⟨i0, hi, hz0, hz1, hz2⟩ := info_parts info_str; refine wpList_append_own _ rfl _ _ 36 rfl w.heap.size 9 i0 (.string ByteArray.empty) 1 16 Tryd.underlying36 hi hz0 hz1 hz2 rfl (by decide) _ _ _ rfl (hown2.alloc _) ⟨w2.heap.size, 0, none⟩ 1 1 [.string rt] rfl rfl (cell_one_new _ _ _) (fun x hx => by simp at hx; subst hx; rfl) (by unfold maxLen; omega) (by omega) (by simp; omega) ?_; intro v' w3 hown' hgrow3 hnil3; clear hi hz0 hz1 hz2)
        | (go_at_call 28; refine (span_any f t 1 _ (by omega) (by omega) (by omega) (by omega) (by omega)).mono ?_; rintro e w' ⟨rfl, rfl⟩))
      have hand : bits BinOp.andNot IntKind.u64 (cur : Int) ((spn (f : Nat) ((t : Nat) : Int) 1 : Nat) : Int) = ((nx cur : Nat) : Int) := by
        rw [u64_andNot_nat _ _ (by have := HC.out; omega) (spn_lt (by omega) (by omega)), HAN.out]
      rw [hand]
      go_roundw
      case rel =>
        obtain ⟨g3, cap3, hv3⟩ : ∃ g3 cap3, v' = .slice (some ⟨g3, 0, none⟩) (acc.length + 1) cap3 := by
          rcases hown'.2 with ⟨_, h⟩ | ⟨g3, cap3, _, h, _⟩
          · omega
          · exact ⟨g3, cap3, h⟩
        refine ⟨nx cur, acc ++ [(f, t)], some ⟨g3, 0, none⟩, cap3, rfl, by have h1 := HC.out; have h2 := HNL.out; show _ < _; omega, by rw [hv3]; simp, ?_, ?_, ?_⟩
        · show _ = _
          rw [List.append_assoc, List.singleton_append, ← HST.out]
          exact hacc.out
        · rw [cellsR_snoc, List.length_append, HRT.out]
          exact hown'
        · exact (hB2.alloc hsz2 _).grown hgrow3 (by simp; omega) (fun q hq => (hown.lt q hq).1)
      case measure => have := HNL.out; simp [intOf]; omega
theorem setText_any (s all : Nat) (hs : s < 9223372036854775808) (h0 : s ≠ 0) (w : World) (hT : Tx w) :
    Calls Tryd.prog 14 #[.int .u64 s, .int .u64 all] w fun e w' => e = .returned (.string ⟨(stx s all).toArray⟩) ∧ Below w.heap.size w w' := by
  unfold stx
  by_cases e : s = all
  · subst e
    rw [if_pos rfl]
    refine (setText_star s w).mono ?_
    rintro e w' ⟨rfl, rfl⟩
    exact ⟨rfl, Below.refl _ _⟩
  · rw [if_neg e]
    exact setText_runs s all hs h0 (by simp; omega) w hT

set_option maxHeartbeats 800000 in
theorem Print_bad (c : Cr) (h5 : In5 c) (hc : okB c = false) (w : World) (hT : TabC w) :
    Calls Tryd.prog 6 #[.agg #[.int .u64 c.mi, .int .u64 c.ho, .int .u64 c.dm, .int .u64 c.mo, .int .u64 c.dw]] w fun e w' => e = .returned (.tuple #[.string ⟨#[]⟩, .int .i64 3]) ∧ Below w.heap.size w w' := by
  go_enter Tryd.func6, Tryd.ntmps6
  go_wp2_with fail
  refine (CheckC_no c h5 hc _ (hT.below (below_box w _) (Nat.le_refl _))).mono ?_
  rintro e w1 ⟨rfl, hb⟩
  go_wp2_with fail
  go_ret2
  exact ⟨rfl, (below_box w _).trans (hb.mono (by simp))⟩

/-- The five texts. -/
def tl (c : Cr) : List (List UInt8) := [stx c.mi 1152921504606846975, stx c.ho 16777215, stx c.dm 4294967294, stx c.mo 8190, stx c.dw 127]
def xsT (c : Cr) (k : Nat) : List ByteArray := ((tl c).take k).map fun x => ByteArray.mk x.toArray
theorem owns_strs {w : World} {base n : Nat} {e : TypeId} {ao : Option Addr} {cv : Nat} {xs : List ByteArray} (h : w.ownsRow base e 1 (.slice ao n cv) n (xs.map Value.string)) (hn : 0 < n) (hx : xs.length = n) :
    ∃ g cap, Value.slice ao n cv = .slice (some ⟨g, 0, none⟩) n cap ∧ (∀ (j : Nat) x, xs[j]? = some x → w.cell? ⟨g, j, none⟩ = some (.string x)) ∧ g < w.heap.size ∧ n ≤ cap := by
  rcases h.2 with ⟨_, h2⟩ | ⟨g, cap, cur, h1, _, h3, h4, _, h5, h6⟩
  · omega
  · refine ⟨g, cap, h1, ?_, ?_, h4⟩
    · intro j x hj
      have hjl : j < n := by
        have := (List.getElem?_eq_some_iff.1 hj).1
        omega
      have e1 : (xs.map Value.string)[j]? = some (.string x) := by rw [List.getElem?_map, hj]; rfl
      rw [← h6, List.getElem?_take_of_lt (by omega)] at e1
      simp [World.cell?, h3]
      simpa using e1
    · rcases Nat.lt_or_ge g w.heap.size with l | l
      · exact l
      · have e : w.heap[g]? = none := by simp; exact l
        rw [e] at h3
        cases h3
theorem owns_made (w : World) (base : Nat) (hb : base ≤ w.heap.size) : (w.alloc (.cells #[.string ByteArray.empty, .string ByteArray.empty, .string ByteArray.empty, .string ByteArray.empty, .string ByteArray.empty] 9)).ownsRow base 9 1 (.slice (some ⟨w.heap.size, 0, none⟩) 0 5) 0 [] := by
  refine ⟨rfl, Or.inr ⟨w.heap.size, 5, #[.string ByteArray.empty, .string ByteArray.empty, .string ByteArray.empty, .string ByteArray.empty, .string ByteArray.empty], rfl, hb, ?_, by omega, by unfold maxLen; omega, rfl, rfl⟩⟩
  show (w.heap.push _)[w.heap.size]? = _
  simp

set_option maxHeartbeats 4000000 in
theorem Print_ok (c : Cr) (hc : okB c = true) (w : World) (hT : Tx w) :
    Calls Tryd.prog 6 #[.agg #[.int .u64 c.mi, .int .u64 c.ho, .int .u64 c.dm, .int .u64 c.mo, .int .u64 c.dw]] w fun e w' => e = .returned (.tuple #[.string ⟨(prt c).toArray⟩, .int .i64 0]) ∧ Below w.heap.size w w' := by
  obtain ⟨a1, a2, b1, b2, d1, d2, d3, e1, e2, e3, g1, g2⟩ := ok_open hc
  have hlj : (Lib.join (((xsT c 5)).map (·.data.toList)) [32]).length ≤ 140737488355328 := by
    have h0 := (stx_free (s := c.mi) (all := 1152921504606846975) (by omega)).2
    have h1 := (stx_free (s := c.ho) (all := 16777215) (by omega)).2
    have h2 := (stx_free (s := c.dm) (all := 4294967294) (by omega)).2
    have h3 := (stx_free (s := c.mo) (all := 8190) (by omega)).2
    have h4 := (stx_free (s := c.dw) (all := 127) (by omega)).2
    have hj := join_le (c := 32) (m := 378) (xs := (xsT c 5).map (·.data.toList)) (by
      intro x hx
      simp only [xsT, tl, List.take, List.map_cons, List.map_nil, List.mem_cons, List.not_mem_nil, or_false] at hx
      rcases hx with h | h | h | h | h <;> rw [h] <;> assumption)
    have hl : ((xsT c 5).map (·.data.toList)).length = 5 := rfl
    rw [hl] at hj
    omega
  have hpr : Lib.join (((xsT c 5)).map (·.data.toList)) [32] = prt c := by
    unfold prt xsT tl
    simp
  have hmk : ∀ w, (Instr.makeSlice 36 (.int .i64 0) (.int .i64 5)).run Tryd.prog w = .ok (.slice (some ⟨w.heap.size, 0, none⟩) 0 5) (w.alloc (.cells #[.string ByteArray.empty, .string ByteArray.empty, .string ByteArray.empty, .string ByteArray.empty, .string ByteArray.empty] 9)) := fun _ => by kernel_rfl
  have z0 : c.mi ≠ 0 := by omega
  have z1 : c.ho ≠ 0 := by omega
  have z2 : c.dm ≠ 0 := by omega
  have z3 : c.mo ≠ 0 := by omega
  have z4 : c.dw ≠ 0 := by omega
  have k0 : Hid (c.mi < 9223372036854775808) := by show _ < _; omega
  have k1 : Hid (c.ho < 9223372036854775808) := by show _ < _; omega
  have k2 : Hid (c.dm < 9223372036854775808) := by show _ < _; omega
  have k3 : Hid (c.mo < 9223372036854775808) := by show _ < _; omega
  have k4 : Hid (c.dw < 9223372036854775808) := by show _ < _; omega
  have HL : Hid ((Lib.join (((xsT c 5)).map (·.data.toList)) [32]).length ≤ 140737488355328) := hlj
  have HP : Hid (Lib.join (((xsT c 5)).map (·.data.toList)) [32] = prt c) := hpr
  clear hlj hpr a1 a2 b1 b2 d1 d2 d3 e1 e2 e3 g1 g2
  go_enter Tryd.func6, Tryd.ntmps6
  go_wp2_with fail
  refine (CheckC_yes c hc _ (hT.alloc _).c).mono ?_
  rintro e w1 ⟨rfl, hb⟩
  have hB1 : Below (w.heap.size + 1) (w.alloc (.cells #[.int .u64 c.mi, .int .u64 c.ho, .int .u64 c.dm, .int .u64 c.mo, .int .u64 c.dw] 24)) w1 := hb.mono (by simp)
  clear hb
  have hs1 : w.heap.size < w1.heap.size := by have := hB1.size; simp at this; omega
  have o0 := owns_made w1 w.heap.size (by omega)
  obtain ⟨hcl, hfz⟩ := bcell hB1
  go_wp2_with fail
  refine (setsOf_any _ _ _ _ _ _).mono ?_
  rintro e w2 ⟨rfl, hb2⟩
  have hown0 := owns_below o0 hb2
  have hBw : Below w.heap.size w w2 := (((below_box w _).trans (hB1.mono (by omega))).alloc (by omega) _).trans (hb2.mono (by simp; omega))
  clear hb2 o0 hcl hfz hmk
  go_wp2_with fail
  go_loopw [5, 16] (fun v i wr => ∃ (k : Nat) (ao : Option Addr) (cv : Nat), i = .int .i64 k ∧ k ≤ 5 ∧ v = .slice ao k cv ∧ wr.ownsRow w.heap.size 9 1 v k ((xsT c k).map Value.string) ∧ Below w.heap.size w wr) (fun _ i _ => 5 - (intOf i).toNat)
  case atStart => exact ⟨0, _, _, rfl, by omega, rfl, hown0, hBw⟩
  case round =>
    obtain ⟨k, ao, cv, rfl, hk, rfl, hown, hB⟩ := hrel
    have hTr := hT.below hB (Nat.le_refl _)
    have hsz := hB.size
    rcases (show k = 5 ∨ k = 0 ∨ k = 1 ∨ k = 2 ∨ k = 3 ∨ k = 4 by omega) with e | e | e | e | e | e <;> subst e
    · obtain ⟨g, cap, hv, hcells, hgl, hcap⟩ := owns_strs hown (by omega) rfl
      have cj := Tryd.strings_Join g 0 cap (xsT c 5) ⟨#[32]⟩ wr (by intro j x hx; rw [Nat.zero_add]; exact hcells j x hx) hgl (by show 5 ≤ _; omega) hcap HL.out
      rw [show (xsT c 5).length = 5 from rfl, show (ByteArray.mk #[32]).data.toList = [32] from rfl, HP.out] at cj
      cases hv
      go_wp2_with fail
      refine cj.mono ?_
      rintro e w3 ⟨rfl, hb3⟩
      go_wp2_with fail
      go_ret2
      exact ⟨rfl, then_below hB hb3⟩
    · have hcell := hTr.c.1
      have hix := fun w => (at5 (.int .u64 c.mi) (.int .u64 c.ho) (.int .u64 c.dm) (.int .u64 c.mo) (.int .u64 c.dw) w).1
      have hset := setText_any c.mi 1152921504606846975 k0.out z0 wr hTr
      go_wp2_with fail
      refine hset.mono ?_
      rintro e w3 ⟨rfl, hb3⟩
      clear hset hcell hix
      have hown3 := owns_below hown hb3
      have hB3 := hB.trans (hb3.mono hsz)
      have hsz3 := hB3.size
      generalize hrt : ByteArray.mk (stx c.mi 1152921504606846975).toArray = rt at *
      have HRT : Hid (ByteArray.mk (stx c.mi 1152921504606846975).toArray = rt) := hrt
      clear hrt
      go_wp2_with (at_builtin; obtain ⟨i0, hi, hz0, hz1, hz2⟩ := info_parts info_str; refine wpList_append_own _ rfl _ _ 36 rfl w.heap.size 9 i0 (.string ByteArray.empty) 1 16 Tryd.underlying36 hi hz0 hz1 hz2 rfl (by decide) _ _ _ rfl (hown3.alloc _) ⟨w3.heap.size, 0, none⟩ 1 1 [.string rt] rfl rfl (cell_one_new _ _ _) (fun x hx => by simp at hx; subst hx; rfl) (by unfold maxLen; omega) (by omega) (by simp; omega) ?_; intro v' w4 hown' hgrow3 hnil3; clear hi hz0 hz1 hz2)
      go_roundw
      case rel =>
        obtain ⟨g3, cap3, hv3⟩ : ∃ g3 cap3, v' = .slice (some ⟨g3, 0, none⟩) (0 + 1) cap3 := by
          rcases hown'.2 with ⟨_, h⟩ | ⟨g3, cap3, _, h, _⟩
          · omega
          · exact ⟨g3, cap3, h⟩
        refine ⟨1, some ⟨g3, 0, none⟩, cap3, by go_num, by omega, hv3, ?_, (hB3.alloc hsz3 _).grown hgrow3 (by simp; omega) (fun q hq => (hown.lt q hq).1)⟩
        have he : (xsT c 1).map Value.string = (xsT c 0).map Value.string ++ [.string rt] := by rw [← HRT.out]; rfl
        rw [he]
        exact hown'
      case measure => simp [intOf]
    · have hcell := hTr.c.2.1
      have hix := fun w => (at5 (.int .u64 c.mi) (.int .u64 c.ho) (.int .u64 c.dm) (.int .u64 c.mo) (.int .u64 c.dw) w).2.1
      have hset := setText_any c.ho 16777215 k1.out z1 wr hTr
      go_wp2_with fail
      refine hset.mono ?_
      rintro e w3 ⟨rfl, hb3⟩
      clear hset hcell hix
      have hown3 := owns_below hown hb3
      have hB3 := hB.trans (hb3.mono hsz)
      have hsz3 := hB3.size
      generalize hrt : ByteArray.mk (stx c.ho 16777215).toArray = rt at *
      have HRT : Hid (ByteArray.mk (stx c.ho 16777215).toArray = rt) := hrt
      clear hrt
      go_wp2_with (at_builtin; obtain ⟨i0, hi, hz0, hz1, hz2⟩ := info_parts info_str; refine wpList_append_own _ rfl _ _ 36 rfl w.heap.size 9 i0 (.string ByteArray.empty) 1 16 Tryd.underlying36 hi hz0 hz1 hz2 rfl (by decide) _ _ _ rfl (hown3.alloc _) ⟨w3.heap.size, 0, none⟩ 1 1 [.string rt] rfl rfl (cell_one_new _ _ _) (fun x hx => by simp at hx; subst hx; rfl) (by unfold maxLen; omega) (by omega) (by simp; omega) ?_; intro v' w4 hown' hgrow3 hnil3; clear hi hz0 hz1 hz2)
      go_roundw
      case rel =>
        obtain ⟨g3, cap3, hv3⟩ : ∃ g3 cap3, v' = .slice (some ⟨g3, 0, none⟩) (1 + 1) cap3 := by
          rcases hown'.2 with ⟨_, h⟩ | ⟨g3, cap3, _, h, _⟩
          · omega
          · exact ⟨g3, cap3, h⟩
        refine ⟨2, some ⟨g3, 0, none⟩, cap3, by go_num, by omega, hv3, ?_, (hB3.alloc hsz3 _).grown hgrow3 (by simp; omega) (fun q hq => (hown.lt q hq).1)⟩
        have he : (xsT c 2).map Value.string = (xsT c 1).map Value.string ++ [.string rt] := by rw [← HRT.out]; rfl
        rw [he]
        exact hown'
      case measure => simp [intOf]
    · have hcell := hTr.c.2.2.1
      have hix := fun w => (at5 (.int .u64 c.mi) (.int .u64 c.ho) (.int .u64 c.dm) (.int .u64 c.mo) (.int .u64 c.dw) w).2.2.1
      have hset := setText_any c.dm 4294967294 k2.out z2 wr hTr
      go_wp2_with fail
      refine hset.mono ?_
      rintro e w3 ⟨rfl, hb3⟩
      clear hset hcell hix
      have hown3 := owns_below hown hb3
      have hB3 := hB.trans (hb3.mono hsz)
      have hsz3 := hB3.size
      generalize hrt : ByteArray.mk (stx c.dm 4294967294).toArray = rt at *
      have HRT : Hid (ByteArray.mk (stx c.dm 4294967294).toArray = rt) := hrt
      clear hrt
      go_wp2_with (at_builtin; obtain ⟨i0, hi, hz0, hz1, hz2⟩ := info_parts info_str; refine wpList_append_own _ rfl _ _ 36 rfl w.heap.size 9 i0 (.string ByteArray.empty) 1 16 Tryd.underlying36 hi hz0 hz1 hz2 rfl (by decide) _ _ _ rfl (hown3.alloc _) ⟨w3.heap.size, 0, none⟩ 1 1 [.string rt] rfl rfl (cell_one_new _ _ _) (fun x hx => by simp at hx; subst hx; rfl) (by unfold maxLen; omega) (by omega) (by simp; omega) ?_; intro v' w4 hown' hgrow3 hnil3; clear hi hz0 hz1 hz2)
      go_roundw
      case rel =>
        obtain ⟨g3, cap3, hv3⟩ : ∃ g3 cap3, v' = .slice (some ⟨g3, 0, none⟩) (2 + 1) cap3 := by
          rcases hown'.2 with ⟨_, h⟩ | ⟨g3, cap3, _, h, _⟩
          · omega
          · exact ⟨g3, cap3, h⟩
        refine ⟨3, some ⟨g3, 0, none⟩, cap3, by go_num, by omega, hv3, ?_, (hB3.alloc hsz3 _).grown hgrow3 (by simp; omega) (fun q hq => (hown.lt q hq).1)⟩
        have he : (xsT c 3).map Value.string = (xsT c 2).map Value.string ++ [.string rt] := by rw [← HRT.out]; rfl
        rw [he]
        exact hown'
      case measure => simp [intOf]
    · have hcell := hTr.c.2.2.2.1
      have hix := fun w => (at5 (.int .u64 c.mi) (.int .u64 c.ho) (.int .u64 c.dm) (.int .u64 c.mo) (.int .u64 c.dw) w).2.2.2.1
      have hset := setText_any c.mo 8190 k3.out z3 wr hTr
      go_wp2_with fail
      refine hset.mono ?_
      rintro e w3 ⟨rfl, hb3⟩
      clear hset hcell hix
      have hown3 := owns_below hown hb3
      have hB3 := hB.trans (hb3.mono hsz)
      have hsz3 := hB3.size
      generalize hrt : ByteArray.mk (stx c.mo 8190).toArray = rt at *
      have HRT : Hid (ByteArray.mk (stx c.mo 8190).toArray = rt) := hrt
      clear hrt
      go_wp2_with (at_builtin; obtain ⟨i0, hi, hz0, hz1, hz2⟩ := info_parts info_str; refine wpList_append_own _ rfl _ _ 36 rfl w.heap.size 9 i0 (.string ByteArray.empty) 1 16 Tryd.underlying36 hi hz0 hz1 hz2 rfl (by decide) _ _ _ rfl (hown3.alloc _) ⟨w3.heap.size, 0, none⟩ 1 1 [.string rt] rfl rfl (cell_one_new _ _ _) (fun x hx => by simp at hx; subst hx; rfl) (by unfold maxLen; omega) (by omega) (by simp; omega) ?_; intro v' w4 hown' hgrow3 hnil3; clear hi hz0 hz1 hz2)
      go_roundw
      case rel =>
        obtain ⟨g3, cap3, hv3⟩ : ∃ g3 cap3, v' = .slice (some ⟨g3, 0, none⟩) (3 + 1) cap3 := by
          rcases hown'.2 with ⟨_, h⟩ | ⟨g3, cap3, _, h, _⟩
          · omega
          · exact ⟨g3, cap3, h⟩
        refine ⟨4, some ⟨g3, 0, none⟩, cap3, by go_num, by omega, hv3, ?_, (hB3.alloc hsz3 _).grown hgrow3 (by simp; omega) (fun q hq => (hown.lt q hq).1)⟩
        have he : (xsT c 4).map Value.string = (xsT c 3).map Value.string ++ [.string rt] := by rw [← HRT.out]; rfl
        rw [he]
        exact hown'
      case measure => simp [intOf]
    · have hcell := hTr.c.2.2.2.2
      have hix := fun w => (at5 (.int .u64 c.mi) (.int .u64 c.ho) (.int .u64 c.dm) (.int .u64 c.mo) (.int .u64 c.dw) w).2.2.2.2
      have hset := setText_any c.dw 127 k4.out z4 wr hTr
      go_wp2_with fail
      refine hset.mono ?_
      rintro e w3 ⟨rfl, hb3⟩
      clear hset hcell hix
      have hown3 := owns_below hown hb3
      have hB3 := hB.trans (hb3.mono hsz)
      have hsz3 := hB3.size
      generalize hrt : ByteArray.mk (stx c.dw 127).toArray = rt at *
      have HRT : Hid (ByteArray.mk (stx c.dw 127).toArray = rt) := hrt
      clear hrt
      go_wp2_with (at_builtin; obtain ⟨i0, hi, hz0, hz1, hz2⟩ := info_parts info_str; refine wpList_append_own _ rfl _ _ 36 rfl w.heap.size 9 i0 (.string ByteArray.empty) 1 16 Tryd.underlying36 hi hz0 hz1 hz2 rfl (by decide) _ _ _ rfl (hown3.alloc _) ⟨w3.heap.size, 0, none⟩ 1 1 [.string rt] rfl rfl (cell_one_new _ _ _) (fun x hx => by simp at hx; subst hx; rfl) (by unfold maxLen; omega) (by omega) (by simp; omega) ?_; intro v' w4 hown' hgrow3 hnil3; clear hi hz0 hz1 hz2)
      go_roundw
      case rel =>
        obtain ⟨g3, cap3, hv3⟩ : ∃ g3 cap3, v' = .slice (some ⟨g3, 0, none⟩) (4 + 1) cap3 := by
          rcases hown'.2 with ⟨_, h⟩ | ⟨g3, cap3, _, h, _⟩
          · omega
          · exact ⟨g3, cap3, h⟩
        refine ⟨5, some ⟨g3, 0, none⟩, cap3, by go_num, by omega, hv3, ?_, (hB3.alloc hsz3 _).grown hgrow3 (by simp; omega) (fun q hq => (hown.lt q hq).1)⟩
        have he : (xsT c 5).map Value.string = (xsT c 4).map Value.string ++ [.string rt] := by rw [← HRT.out]; rfl
        rw [he]
        exact hown'
      case measure => simp [intOf]
end Go.Proofs.YthebcdadoinflaaDoor
