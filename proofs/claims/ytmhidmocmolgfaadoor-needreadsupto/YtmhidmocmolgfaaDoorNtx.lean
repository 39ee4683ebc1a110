/- Package need, walked: Text. -/
import Derived.Test.YtmhidmocmolgfaaDoorNtm
import Derived.Test.YtmhidmocmolgfaaDoorNdd
import Derived.Test.YtmhidmocmolgfaaDoorShelf
import Derived.Test.YtmhidmocmolgfaaDoorTkc
import Derived.Lib.LaidTab
import Derived.Lib.SmallJoins
import Derived.Maps.AppendAt
import Derived.Maps.RangeWalk
namespace Go.Proofs.YtmhidmocmolgfaaDoor
open Go.RowKit Ndm
set_option linter.unusedSectionVars false
set_option linter.unusedVariables false

/-- The kinds' names lie in their variable. -/
def TabM (w : World) : Prop := ∀ i : Nat, i < 3 → w.cell? ⟨0, i, none⟩ = some (.string ⟨(nmB i).toArray⟩)
def TabP (w : World) : Prop := Lib.TabIs Tryd.prog w "internal/strconv.uint64pow10" .u64 Lib.pow10Tab
theorem TabM.lt {w : World} (h : TabM w) : 0 < w.heap.size := World.block_lt_of_cell? w _ (h 0 (by omega))
theorem TabM.below {w w' : World} {B : Nat} (h : TabM w) (hb : Below B w w') (hB : w.heap.size ≤ B) : TabM w' := fun k hk => (hb.cell (p := ⟨0, k, none⟩) (Nat.lt_of_lt_of_le h.lt hB)).trans (h k hk)
theorem below_grow (w : World) (q : Nat) (os : Array Obj) : Below w.heap.size w (Sort.grow (w.drewN q) os) := ⟨rfl, rfl, rfl, by simp [Sort.grow], fun _ hk => Sort.heap_grow_old _ _ hk⟩
theorem fmt_any (n : Int) (h0 : 0 ≤ n) (h1 : n ≤ 1099511627776) (w : World) (hT : TabP w) : Calls Tryd.prog 36 #[.int .i64 n, .int .i64 10] w fun e w' => e = .returned (.string ⟨(Lib.itoa n).toArray⟩) ∧ Below w.heap.size w w' := by
  refine (Tryd.strconv_FormatInt_10 n (by omega) (by omega) w hT).mono ?_
  rintro e w' ⟨rfl, k, os, rfl⟩
  exact ⟨rfl, below_grow w k os⟩
theorem gPow : Tryd.prog.globalNamed "internal/strconv.uint64pow10" = some 1 := by kernel_rfl
theorem TabP.below {w w' : World} (h : TabP w) (hb : Below w.heap.size w w') : TabP w' := Joins.tab_stays gPow h hb (Nat.le_refl _)
theorem info_str : (Tryd.prog.info? 9).map (fun i => (i.zero, i.size, i.bytes)) = some (some (.string ByteArray.empty), 1, 16) := by kernel_rfl
theorem form_succ {w : World} {B : Nat} {e : TypeId} {k : Nat} {v : Value} {n : Nat} {xs : List Value} (h : w.ownsRow B e k v (n + 1) xs) : ∃ g cap, v = .slice (some ⟨g, 0, none⟩) (n + 1) cap := by
  rcases h.2 with ⟨_, h0⟩ | ⟨g, cap, cur, hv, _⟩
  · omega
  · exact ⟨g, cap, hv⟩
theorem cells_new (w : World) (cs : List Value) (t : TypeId) : ∀ j u, cs[j]? = some u → (w.alloc (.cells cs.toArray t)).cell? ((⟨w.heap.size, 0, none⟩ : Addr).add j) = some u := by
  intro j u hu
  rw [Addr.add_lit, Nat.zero_add]
  exact (cell_of_row _ _ j _ _ _ (heap_alloc_new w _)).trans (by simpa using hu)
theorem row_below {w w' : World} {B : Nat} {e : TypeId} {size : Nat} {v : Value} {n : Nat} {xs : List Value} (h : w.ownsRow B e size v n xs) (hK : Below w.heap.size w w') : w'.ownsRow B e size v n xs :=
  h.kept (w' := w') (row := none) ⟨hK.os, hK.tape, hK.output, hK.size, fun k hk _ => hK.block k hk⟩ (by cases hv : v.ownBlock <;> simp)
/-- Texts as values. -/
def strs (L : List (List UInt8)) : List Value := L.map fun s => .string ⟨s.toArray⟩
theorem strs_len (L : List (List UInt8)) : (strs L).length = L.length := by simp [strs]

/-- An append of one text, as an operation. -/
theorem step_apps {w : World} {o : Oper} {a : Act} {Q : Exit → Act → World → Prop} {K : Act → World → Prop} {base : Nat} (s x : Operand) (hop : o.op = Op.call { callee := Callee.builtin Builtin.append, args := #[s, x], argTypes := #[55, 55] })
    {p : Option Addr} {m c : Nat} {xs : List Value} {u : Value} {ad : Addr} (hown : w.ownsRow base 9 1 (.slice p m c) m xs) (hs : a.eval s = .slice p m c) (hx : a.eval x = .slice (some ad) 1 1 ∧ u.oneCell' = true) (hnews : ∀ j y, [u][j]? = some y → w.cell? (ad.add j) = some y) (hm : m ≤ 400) (hbase : base ≤ w.heap.size)
    (h : ∀ g' c' w', w'.ownsRow base 9 1 (.slice (some ⟨g', 0, none⟩) (m + 1) c') (m + 1) (xs ++ [u]) → w.grownBy w' (Value.ownBlock (.slice p m c)) → (some g' = Value.ownBlock (.slice p m c) ∨ some g' = some w.heap.size) → K (a.put o.dst (.slice (some ⟨g', 0, none⟩) (m + 1) c')) w') : o.wp Tryd.prog a w K Q := by
  obtain ⟨i0, hi, hz0, hz1, hz2⟩ := info_parts info_str
  obtain ⟨v', w', hr, h2, h3, h4, h5⟩ := run_append_own_at (P := Tryd.prog) w base 55 o.type 9 i0 (.string ByteArray.empty) 1 16 Tryd.underlying55 hi hz0 hz1 hz2 rfl (by decide) _ _ xs hown ad 1 1 [u] rfl hnews (fun y hy => by simp at hy; subst hy; exact hx.2) (by unfold maxLen; omega) (by omega) hbase
  obtain ⟨g', c', rfl⟩ := form_succ h2
  unfold Oper.wp execOp
  simp only [hop, resolve, invoke, builtin, Sem.run_bind, Sem.run_pure, Result.andThen_ok, List.map_toArray, List.map_cons, List.map_nil, hs, hx.1, hr]
  exact h g' c' w' h2 h3 h5

theorem ix0 (x y z : Int) : ∀ w, (Instr.index 61 (.agg #[.int .i64 x, .int .i64 y, .int .i64 z]) (.int .i64 0)).run Tryd.prog w = .ok (.int .i64 x) w := fun _ => by kernel_rfl
theorem ix1 (x y z : Int) : ∀ w, (Instr.index 61 (.agg #[.int .i64 x, .int .i64 y, .int .i64 z]) (.int .i64 1)).run Tryd.prog w = .ok (.int .i64 y) w := fun _ => by kernel_rfl
theorem ix2 (x y z : Int) : ∀ w, (Instr.index 61 (.agg #[.int .i64 x, .int .i64 y, .int .i64 z]) (.int .i64 2)).run Tryd.prog w = .ok (.int .i64 z) w := fun _ => by kernel_rfl

set_option maxHeartbeats 4000000 in
set_option maxRecDepth 100000 in
theorem Text_ok (a : N3) (w : World) (hM : TabM w) (hP : TabP w) (ha : okN a = true) : Calls Tryd.prog 9 #[(.agg #[.int .i64 a.x, .int .i64 a.y, .int .i64 a.z])] w fun e w' => e = .returned (.tuple #[.string ⟨(txN a).toArray⟩, .int .i64 0]) ∧ Below w.heap.size w w' := by
  have h1 : (w.alloc (.cells #[.int .i64 a.x, .int .i64 a.y, .int .i64 a.z] 23)).heap[w.heap.size]? = some (.cells #[.int .i64 a.x, .int .i64 a.y, .int .i64 a.z] 23 (0, 0)) := heap_alloc_new _ _
  have hsz1 : w.heap.size ≤ (w.alloc (.cells #[.int .i64 a.x, .int .i64 a.y, .int .i64 a.z] 23)).heap.size := by simp
  have hBH : Hid (Below w.heap.size w (w.alloc (.cells #[.int .i64 a.x, .int .i64 a.y, .int .i64 a.z] 23))) := (Below.refl _ _).alloc (Nat.le_refl _) _
  have hck := check_one (w.alloc (.cells #[.int .i64 a.x, .int .i64 a.y, .int .i64 a.z] 23)) a (w.heap.size + 1) (by simp)
  rw [ha, show ce true = 0 from rfl] at hck
  have ham := fun w1 => amounts_any a w1
  have i0 := ix0 a.x a.y a.z
  have i1 := ix1 a.x a.y a.z
  have i2 := ix2 a.x a.y a.z
  have hMb : Hid (∀ w1, Below w.heap.size w w1 → TabM w1) := fun w1 hb => hM.below hb (Nat.le_refl _)
  have hPb : Hid (∀ w1, Below w.heap.size w w1 → TabP w1) := fun w1 hb => hP.below hb
  have haH : Hid (okN a = true) := ha
  have hgm : Hid (0 < w.heap.size) := hM.lt
  clear hM hP ha
  go_enter Tryd.func9, Tryd.ntmps9
  go_wp2_with (first
    | (go_at_call 34; refine hck.mono ?_; rintro e w3 ⟨rfl, hb3⟩; have g1 : w3.heap[w.heap.size]? = some (.cells #[.int .i64 a.x, .int .i64 a.y, .int .i64 a.z] 23 (0, 0)) := (hb3.block w.heap.size (Array.getElem?_eq_some_iff.1 h1).1).trans h1; have hB3 : Below w.heap.size w w3 := hBH.out.trans (hb3.mono hsz1); clear hck)
    | (refine load_wanted rfl 23 _ rfl _ rfl _ _ _ _ g1 Tryd.underlying23 rfl (need_info _ rfl) ?_)
    | (go_at_call 35; refine (ham w3).mono ?_; rintro e w4 ⟨rfl, hb4⟩; clear ham; have hB4 : Hid (Below w.heap.size w w4) := hB3.trans (hb4.mono hB3.size); clear g1 hb4 hB3)
    | go_in)
  go_loopw [5, 16] (fun ov iv wr => ∃ (k : Nat) (p : Option Addr) (c : Nat), (k = 0 ∧ iv = .int .i64 0 ∨ k = 1 ∧ iv = .int .i64 1 ∨ k = 2 ∧ iv = .int .i64 2 ∨ k = 3 ∧ iv = .int .i64 3) ∧ ov = .slice p (itL a k).length c ∧ wr.ownsRow w4.heap.size 9 1 (.slice p (itL a k).length c) (itL a k).length (strs (itL a k)) ∧ Below w4.heap.size w4 wr)
    (fun _ iv _ => 3 - (intOf iv).toNat)
  case atStart => exact ⟨0, none, 0, Or.inl ⟨rfl, rfl⟩, rfl, World.ownsRow_nil _ _ _ _, Below.refl _ _⟩
  case round =>
    obtain ⟨k, p, c, hk, rfl, hown, hbl⟩ := hrel
    have hBr : Hid (Below w.heap.size w wr) := hB4.out.trans (hbl.mono hB4.out.size)
    have hblH : Hid (Below w4.heap.size w4 wr) := hbl
    have hsz4 : Hid (w4.heap.size ≤ wr.heap.size) := hbl.size
    have hownH : Hid (wr.ownsRow w4.heap.size 9 1 (.slice p (itL a k).length c) (itL a k).length (strs (itL a k))) := hown
    clear hbl hown
    rcases hk with ⟨rfl, rfl⟩ | ⟨rfl, rfl⟩ | ⟨rfl, rfl⟩ | ⟨rfl, rfl⟩
    · by_cases hx : a.x = 0
      · have hxx : (a.x != 0) = false := by simpa using hx
        have hL : Hid (itL a 1 = itL a 0) := by
          show _ = _
          simp [itL, it1, hx]
        clear hx
        go_wp2
        refine ⟨⟨1, p, c, Or.inr (Or.inl ⟨rfl, by first | rfl | simp⟩), by rw [hL.out], by rw [hL.out]; exact hownH.out, hblH.out⟩, ?_⟩
        simp [intOf]
      · have hxx : (a.x != 0) = true := by simpa using hx
        have hL : Hid (itL a 1 = itL a 0 ++ [itN 0 a.x]) := by
          show _ = _
          simp [itL, it1, hx]
        obtain ⟨m, hm⟩ : ∃ m, (itL a 0).length = m := ⟨_, rfl⟩
        have hmH : Hid ((itL a 0).length = m) := hm
        have hm3 : Hid (m ≤ 3) := by have := itL_len a 0; show _ ≤ _; omega
        have hrow : wr.drew.ownsRow w4.heap.size 9 1 (.slice p m c) m (strs (itL a 0)) := by have := hownH.out; rw [hm] at this; exact this
        rw [hm]
        clear hm hx
        go_wp2
        have hc : wr.drew.cell? ⟨0, 0, none⟩ = some (.string ⟨#[99, 112, 117]⟩) := hMb.out wr hBr.out 0 (by omega)
        have hBd : Hid (Below w.heap.size w wr.drew) := hBr.out.drew
        have hbd4 : Hid (Below w4.heap.size w4 wr.drew) := hblH.out.drew
        have hs4 : Hid (w4.heap.size ≤ wr.drew.heap.size) := hsz4.out
        obtain ⟨⟨x1, x2⟩, ⟨x3, x4⟩, x5, x6⟩ := okN_iff.1 haH.out
        have hfm := fmt_any a.x (by assumption) (by assumption) wr.drew (hPb.out _ hBd.out)
        have hil : Hid ((Lib.itoa a.x).length ≤ 21) := Lib.itoa_length_le a.x (by omega) (by omega)
        obtain ⟨it, hit⟩ : ∃ it, Lib.itoa a.x = it := ⟨_, rfl⟩
        have hitH : Hid (Lib.itoa a.x = it) := hit
        rw [hit] at hfm hil
        clear hit
        refine Tkc.region_anyC (C := fun w' => w'.cell? ⟨0, 0, none⟩ = some (.string ⟨#[99, 112, 117]⟩)) (s := 10) (by kernel_rfl) ?_
        generalize wr.drew = wd at *
        refine Tkc.takeC (i := 0) (v := .slice p m c) rfl (by kernel_rfl) (by kernel_rfl) (by kernel_rfl) (fun _ _ _ h => h) (by decide) (by kernel_rfl) (by kernel_rfl) hc ⟨by rfl, fun w hw => by have hw2 := hw; go_simp⟩ ?_
        try go_frame
        refine Tkc.takeC (i := 1) (v := .int .i64 0) rfl (by kernel_rfl) (by kernel_rfl) (by kernel_rfl) (fun _ _ _ h => h) (by decide) (by kernel_rfl) (by kernel_rfl) hc ⟨by rfl, fun w hw => by have hw2 := hw; go_simp⟩ ?_
        try go_frame
        refine Tkc.takeC (i := 2) (v := .pointer (some ⟨0, 0, none⟩)) rfl (by kernel_rfl) (by kernel_rfl) (by kernel_rfl) (fun _ _ _ h => h) (by decide) (by kernel_rfl) (by kernel_rfl) hc ⟨by rfl, fun w hw => by have hw2 := hw; go_simp⟩ ?_
        try go_frame
        refine Tkc.takeC (i := 3) (v := .string ⟨#[99, 112, 117]⟩) rfl (by kernel_rfl) (by kernel_rfl) (by kernel_rfl) (fun _ _ _ h => h) (by decide) (by kernel_rfl) (by kernel_rfl) hc ⟨by rfl, fun w hw => by have hw2 := hw; go_simp⟩ ?_
        try go_frame
        refine Tkc.takeC (i := 5) (v := .int .i64 a.x) rfl (by kernel_rfl) (by kernel_rfl) (by kernel_rfl) (fun _ _ _ h => h) (by decide) (by kernel_rfl) (by kernel_rfl) hc ⟨by rfl, fun w hw => by have hw2 := hw; go_simp⟩ ?_
        try go_frame
        refine Tkc.takeC (i := 4) (v := .string (⟨#[99, 112, 117]⟩ ++ ⟨#[61]⟩)) rfl (by kernel_rfl) (by kernel_rfl) (by kernel_rfl) (fun _ _ _ h => h) (by decide) (by kernel_rfl) (by kernel_rfl) hc ⟨by rfl, fun w hw => by have hw2 := hw; go_simp⟩ ?_
        try go_frame
        refine Tkc.onlyC (i := 6) rfl (by kernel_rfl) (fun _ => hc) (by rfl) (fun K hK => ?_)
        go_simp
        refine hfm.mono ?_
        rintro e w6 ⟨rfl, hb6⟩
        refine hK _ _ ?_
        clear hK K
        have hc : w6.cell? ⟨0, 0, none⟩ = some (.string ⟨#[99, 112, 117]⟩) := (hb6.cell (p := ⟨0, 0, none⟩) (World.block_lt_of_cell? _ _ hc)).trans hc
        have hrow6 := row_below hrow hb6
        have hB6 : Hid (Below w4.heap.size w4 w6) := hbd4.out.trans (hb6.mono hs4.out)
        have hs6 : w4.heap.size ≤ w6.heap.size := hB6.out.size
        have hz1 : (ByteArray.mk it.toArray).size ≤ 21 := by have := hil.out; simpa [ByteArray.size] using this
        try go_frame
        have hnl : ¬ (9223372036854775807 < 4 + it.length) := by have := hil.out; omega
        refine Tkc.onlyC (i := 7) rfl (by kernel_rfl) (fun _ => hc) (by rfl) (fun K hK => ?_)
        go_simp
        refine hK _ _ ?_
        clear hK K
        try go_frame
        obtain ⟨sv, hsv⟩ : ∃ sv : ByteArray, (⟨#[99, 112, 117]⟩ ++ ⟨#[61]⟩ ++ ⟨it.toArray⟩ : ByteArray) = sv := ⟨_, rfl⟩
        have hsvH : Hid ((⟨#[99, 112, 117]⟩ ++ ⟨#[61]⟩ ++ ⟨it.toArray⟩ : ByteArray) = sv) := hsv
        try rw [hsv]
        clear hsv
        refine Tkc.onlyC (i := 8) rfl (by kernel_rfl) (fun _ => hc) (by rfl) (fun K hK => ?_)
        go_simp
        refine hK _ _ ?_
        clear hK K
        have hbA : Below w6.heap.size w6 (w6.alloc (.cells #[.string sv] 9)) := (Below.refl _ _).alloc (Nat.le_refl _) _
        have hc : (w6.alloc (.cells #[.string sv] 9)).cell? ⟨0, 0, none⟩ = some (.string ⟨#[99, 112, 117]⟩) := (hbA.cell (p := ⟨0, 0, none⟩) (World.block_lt_of_cell? _ _ hc)).trans hc
        have hnw := cells_new w6 [.string sv] 9
        try go_frame
        refine Tkc.onlyC (i := 9) rfl (by kernel_rfl) (fun _ => hc) (by rfl) (fun K hK => ?_)
        refine step_apps (base := w4.heap.size) (.tmp 22) (.tmp 30) rfl (hrow6.alloc _) (by simp [Act.eval]) ⟨by simp [Act.eval], rfl⟩ hnw (Nat.le_trans hm3.out (by decide)) (by simp; omega) ?_
        intro g7 cap7 w7 hown7 hgA hloc
        refine hK _ _ ?_
        clear hK K
        have hb7 : Below w4.heap.size (w6.alloc (.cells #[.string sv] 9)) w7 := (Below.refl _ _).grown hgA (by simp; omega) (fun k hk => (hrow6.lt k hk).1)
        have hlt4 : 0 < w4.heap.size := Nat.lt_of_lt_of_le hgm.out hB4.out.size
        have hc : w7.cell? ⟨0, 0, none⟩ = some (.string ⟨#[99, 112, 117]⟩) := (hb7.cell (p := ⟨0, 0, none⟩) hlt4).trans hc
        have hB7 : Hid (Below w4.heap.size w4 w7) := (hB6.out.trans (hbA.mono hs6)).trans hb7
        try go_frame
        refine Tkc.onlyC (i := 10) rfl (by kernel_rfl) (fun _ => hc) (by rfl) (fun K hK => ?_)
        go_simp
        refine hK _ _ ?_
        clear hK K
        refine Tkc.doneC (by kernel_rfl) (fun hz => by have hz' : true = false := hz; cases hz') ?_
        clear hc hnw hbA hb7 hloc hgA hrow hrow6 hb6
        go_wp2
        have hitm : sv = ⟨(itN 0 a.x).toArray⟩ := by
          rw [← hsvH.out, show (#[61] : Array UInt8) = [61].toArray from rfl, show (#[99, 112, 117] : Array UInt8) = (nmB 0).toArray from rfl, ByteArray.mk_append_mk, ByteArray.mk_append_mk, ← hitH.out, itN, List.append_assoc]
        have hl1 : (itL a 1).length = m + 1 := by rw [hL.out, List.length_append, hmH.out]; rfl
        refine ⟨⟨1, some ⟨g7, 0, none⟩, cap7, Or.inr (Or.inl ⟨rfl, by first | rfl | simp⟩), by rw [hl1], ?_, hB7.out⟩, ?_⟩
        · rw [hl1, hL.out, strs, List.map_append, ← strs]
          rw [hitm] at hown7
          exact hown7
        · simp [intOf]
    · by_cases hx : a.y = 0
      · have hxx : (a.y != 0) = false := by simpa using hx
        have hL : Hid (itL a 2 = itL a 1) := by
          show _ = _
          simp [itL, it1, hx]
        clear hx
        go_wp2
        refine ⟨⟨2, p, c, Or.inr (Or.inr (Or.inl ⟨rfl, by first | rfl | simp⟩)), by rw [hL.out], by rw [hL.out]; exact hownH.out, hblH.out⟩, ?_⟩
        simp [intOf]
      · have hxx : (a.y != 0) = true := by simpa using hx
        have hL : Hid (itL a 2 = itL a 1 ++ [itN 1 a.y]) := by
          show _ = _
          simp [itL, it1, hx]
        obtain ⟨m, hm⟩ : ∃ m, (itL a 1).length = m := ⟨_, rfl⟩
        have hmH : Hid ((itL a 1).length = m) := hm
        have hm3 : Hid (m ≤ 3) := by have := itL_len a 1; show _ ≤ _; omega
        have hrow : wr.drew.ownsRow w4.heap.size 9 1 (.slice p m c) m (strs (itL a 1)) := by have := hownH.out; rw [hm] at this; exact this
        rw [hm]
        clear hm hx
        go_wp2
        have hc : wr.drew.cell? ⟨0, 1, none⟩ = some (.string ⟨#[109, 101, 109]⟩) := hMb.out wr hBr.out 1 (by omega)
        have hBd : Hid (Below w.heap.size w wr.drew) := hBr.out.drew
        have hbd4 : Hid (Below w4.heap.size w4 wr.drew) := hblH.out.drew
        have hs4 : Hid (w4.heap.size ≤ wr.drew.heap.size) := hsz4.out
        obtain ⟨⟨x1, x2⟩, ⟨x3, x4⟩, x5, x6⟩ := okN_iff.1 haH.out
        have hfm := fmt_any a.y (by assumption) (by assumption) wr.drew (hPb.out _ hBd.out)
        have hil : Hid ((Lib.itoa a.y).length ≤ 21) := Lib.itoa_length_le a.y (by omega) (by omega)
        obtain ⟨it, hit⟩ : ∃ it, Lib.itoa a.y = it := ⟨_, rfl⟩
        have hitH : Hid (Lib.itoa a.y = it) := hit
        rw [hit] at hfm hil
        clear hit
        refine Tkc.region_anyC (C := fun w' => w'.cell? ⟨0, 1, none⟩ = some (.string ⟨#[109, 101, 109]⟩)) (s := 10) (by kernel_rfl) ?_
        generalize wr.drew = wd at *
        refine Tkc.takeC (i := 0) (v := .slice p m c) rfl (by kernel_rfl) (by kernel_rfl) (by kernel_rfl) (fun _ _ _ h => h) (by decide) (by kernel_rfl) (by kernel_rfl) hc ⟨by rfl, fun w hw => by have hw2 := hw; go_simp⟩ ?_
        try go_frame
        refine Tkc.takeC (i := 1) (v := .int .i64 1) rfl (by kernel_rfl) (by kernel_rfl) (by kernel_rfl) (fun _ _ _ h => h) (by decide) (by kernel_rfl) (by kernel_rfl) hc ⟨by rfl, fun w hw => by have hw2 := hw; go_simp⟩ ?_
        try go_frame
        refine Tkc.takeC (i := 2) (v := .pointer (some ⟨0, 1, none⟩)) rfl (by kernel_rfl) (by kernel_rfl) (by kernel_rfl) (fun _ _ _ h => h) (by decide) (by kernel_rfl) (by kernel_rfl) hc ⟨by rfl, fun w hw => by have hw2 := hw; go_simp⟩ ?_
        try go_frame
        refine Tkc.takeC (i := 3) (v := .string ⟨#[109, 101, 109]⟩) rfl (by kernel_rfl) (by kernel_rfl) (by kernel_rfl) (fun _ _ _ h => h) (by decide) (by kernel_rfl) (by kernel_rfl) hc ⟨by rfl, fun w hw => by have hw2 := hw; go_simp⟩ ?_
        try go_frame
        refine Tkc.takeC (i := 5) (v := .int .i64 a.y) rfl (by kernel_rfl) (by kernel_rfl) (by kernel_rfl) (fun _ _ _ h => h) (by decide) (by kernel_rfl) (by kernel_rfl) hc ⟨by rfl, fun w hw => by have hw2 := hw; go_simp⟩ ?_
        try go_frame
        refine Tkc.takeC (i := 4) (v := .string (⟨#[109, 101, 109]⟩ ++ ⟨#[61]⟩)) rfl (by kernel_rfl) (by kernel_rfl) (by kernel_rfl) (fun _ _ _ h => h) (by decide) (by kernel_rfl) (by kernel_rfl) hc ⟨by rfl, fun w hw => by have hw2 := hw; go_simp⟩ ?_
        try go_frame
        refine Tkc.onlyC (i := 6) rfl (by kernel_rfl) (fun _ => hc) (by rfl) (fun K hK => ?_)
        go_simp
        refine hfm.mono ?_
        rintro e w6 ⟨rfl, hb6⟩
        refine hK _ _ ?_
        clear hK K
        have hc : w6.cell? ⟨0, 1, none⟩ = some (.string ⟨#[109, 101, 109]⟩) := (hb6.cell (p := ⟨0, 1, none⟩) (World.block_lt_of_cell? _ _ hc)).trans hc
        have hrow6 := row_below hrow hb6
        have hB6 : Hid (Below w4.heap.size w4 w6) := hbd4.out.trans (hb6.mono hs4.out)
        have hs6 : w4.heap.size ≤ w6.heap.size := hB6.out.size
        have hz1 : (ByteArray.mk it.toArray).size ≤ 21 := by have := hil.out; simpa [ByteArray.size] using this
        try go_frame
        have hnl : ¬ (9223372036854775807 < 4 + it.length) := by have := hil.out; omega
        refine Tkc.onlyC (i := 7) rfl (by kernel_rfl) (fun _ => hc) (by rfl) (fun K hK => ?_)
        go_simp
        refine hK _ _ ?_
        clear hK K
        try go_frame
        obtain ⟨sv, hsv⟩ : ∃ sv : ByteArray, (⟨#[109, 101, 109]⟩ ++ ⟨#[61]⟩ ++ ⟨it.toArray⟩ : ByteArray) = sv := ⟨_, rfl⟩
        have hsvH : Hid ((⟨#[109, 101, 109]⟩ ++ ⟨#[61]⟩ ++ ⟨it.toArray⟩ : ByteArray) = sv) := hsv
        try rw [hsv]
        clear hsv
        refine Tkc.onlyC (i := 8) rfl (by kernel_rfl) (fun _ => hc) (by rfl) (fun K hK => ?_)
        go_simp
        refine hK _ _ ?_
        clear hK K
        have hbA : Below w6.heap.size w6 (w6.alloc (.cells #[.string sv] 9)) := (Below.refl _ _).alloc (Nat.le_refl _) _
        have hc : (w6.alloc (.cells #[.string sv] 9)).cell? ⟨0, 1, none⟩ = some (.string ⟨#[109, 101, 109]⟩) := (hbA.cell (p := ⟨0, 1, none⟩) (World.block_lt_of_cell? _ _ hc)).trans hc
        have hnw := cells_new w6 [.string sv] 9
        try go_frame
        refine Tkc.onlyC (i := 9) rfl (by kernel_rfl) (fun _ => hc) (by rfl) (fun K hK => ?_)
        refine step_apps (base := w4.heap.size) (.tmp 22) (.tmp 30) rfl (hrow6.alloc _) (by simp [Act.eval]) ⟨by simp [Act.eval], rfl⟩ hnw (Nat.le_trans hm3.out (by decide)) (by simp; omega) ?_
        intro g7 cap7 w7 hown7 hgA hloc
        refine hK _ _ ?_
        clear hK K
        have hb7 : Below w4.heap.size (w6.alloc (.cells #[.string sv] 9)) w7 := (Below.refl _ _).grown hgA (by simp; omega) (fun k hk => (hrow6.lt k hk).1)
        have hlt4 : 0 < w4.heap.size := Nat.lt_of_lt_of_le hgm.out hB4.out.size
        have hc : w7.cell? ⟨0, 1, none⟩ = some (.string ⟨#[109, 101, 109]⟩) := (hb7.cell (p := ⟨0, 1, none⟩) hlt4).trans hc
        have hB7 : Hid (Below w4.heap.size w4 w7) := (hB6.out.trans (hbA.mono hs6)).trans hb7
        try go_frame
        refine Tkc.onlyC (i := 10) rfl (by kernel_rfl) (fun _ => hc) (by rfl) (fun K hK => ?_)
        go_simp
        refine hK _ _ ?_
        clear hK K
        refine Tkc.doneC (by kernel_rfl) (fun hz => by have hz' : true = false := hz; cases hz') ?_
        clear hc hnw hbA hb7 hloc hgA hrow hrow6 hb6
        go_wp2
        have hitm : sv = ⟨(itN 1 a.y).toArray⟩ := by
          rw [← hsvH.out, show (#[61] : Array UInt8) = [61].toArray from rfl, show (#[109, 101, 109] : Array UInt8) = (nmB 1).toArray from rfl, ByteArray.mk_append_mk, ByteArray.mk_append_mk, ← hitH.out, itN, List.append_assoc]
        have hl1 : (itL a 2).length = m + 1 := by rw [hL.out, List.length_append, hmH.out]; rfl
        refine ⟨⟨2, some ⟨g7, 0, none⟩, cap7, Or.inr (Or.inr (Or.inl ⟨rfl, by first | rfl | simp⟩)), by rw [hl1], ?_, hB7.out⟩, ?_⟩
        · rw [hl1, hL.out, strs, List.map_append, ← strs]
          rw [hitm] at hown7
          exact hown7
        · simp [intOf]
    · by_cases hx : a.z = 0
      · have hxx : (a.z != 0) = false := by simpa using hx
        have hL : Hid (itL a 3 = itL a 2) := by
          show _ = _
          simp [itL, it1, hx]
        clear hx
        go_wp2
        refine ⟨⟨3, p, c, Or.inr (Or.inr (Or.inr ⟨rfl, by first | rfl | simp⟩)), by rw [hL.out], by rw [hL.out]; exact hownH.out, hblH.out⟩, ?_⟩
        simp [intOf]
      · have hxx : (a.z != 0) = true := by simpa using hx
        have hL : Hid (itL a 3 = itL a 2 ++ [itN 2 a.z]) := by
          show _ = _
          simp [itL, it1, hx]
        obtain ⟨m, hm⟩ : ∃ m, (itL a 2).length = m := ⟨_, rfl⟩
        have hmH : Hid ((itL a 2).length = m) := hm
        have hm3 : Hid (m ≤ 3) := by have := itL_len a 2; show _ ≤ _; omega
        have hrow : wr.drew.ownsRow w4.heap.size 9 1 (.slice p m c) m (strs (itL a 2)) := by have := hownH.out; rw [hm] at this; exact this
        rw [hm]
        clear hm hx
        go_wp2
        have hc : wr.drew.cell? ⟨0, 2, none⟩ = some (.string ⟨#[103, 112, 117]⟩) := hMb.out wr hBr.out 2 (by omega)
        have hBd : Hid (Below w.heap.size w wr.drew) := hBr.out.drew
        have hbd4 : Hid (Below w4.heap.size w4 wr.drew) := hblH.out.drew
        have hs4 : Hid (w4.heap.size ≤ wr.drew.heap.size) := hsz4.out
        obtain ⟨⟨x1, x2⟩, ⟨x3, x4⟩, x5, x6⟩ := okN_iff.1 haH.out
        have hfm := fmt_any a.z (by assumption) (by assumption) wr.drew (hPb.out _ hBd.out)
        have hil : Hid ((Lib.itoa a.z).length ≤ 21) := Lib.itoa_length_le a.z (by omega) (by omega)
        obtain ⟨it, hit⟩ : ∃ it, Lib.itoa a.z = it := ⟨_, rfl⟩
        have hitH : Hid (Lib.itoa a.z = it) := hit
        rw [hit] at hfm hil
        clear hit
        refine Tkc.region_anyC (C := fun w' => w'.cell? ⟨0, 2, none⟩ = some (.string ⟨#[103, 112, 117]⟩)) (s := 10) (by kernel_rfl) ?_
        generalize wr.drew = wd at *
        refine Tkc.takeC (i := 0) (v := .slice p m c) rfl (by kernel_rfl) (by kernel_rfl) (by kernel_rfl) (fun _ _ _ h => h) (by decide) (by kernel_rfl) (by kernel_rfl) hc ⟨by rfl, fun w hw => by have hw2 := hw; go_simp⟩ ?_
        try go_frame
        refine Tkc.takeC (i := 1) (v := .int .i64 2) rfl (by kernel_rfl) (by kernel_rfl) (by kernel_rfl) (fun _ _ _ h => h) (by decide) (by kernel_rfl) (by kernel_rfl) hc ⟨by rfl, fun w hw => by have hw2 := hw; go_simp⟩ ?_
        try go_frame
        refine Tkc.takeC (i := 2) (v := .pointer (some ⟨0, 2, none⟩)) rfl (by kernel_rfl) (by kernel_rfl) (by kernel_rfl) (fun _ _ _ h => h) (by decide) (by kernel_rfl) (by kernel_rfl) hc ⟨by rfl, fun w hw => by have hw2 := hw; go_simp⟩ ?_
        try go_frame
        refine Tkc.takeC (i := 3) (v := .string ⟨#[103, 112, 117]⟩) rfl (by kernel_rfl) (by kernel_rfl) (by kernel_rfl) (fun _ _ _ h => h) (by decide) (by kernel_rfl) (by kernel_rfl) hc ⟨by rfl, fun w hw => by have hw2 := hw; go_simp⟩ ?_
        try go_frame
        refine Tkc.takeC (i := 5) (v := .int .i64 a.z) rfl (by kernel_rfl) (by kernel_rfl) (by kernel_rfl) (fun _ _ _ h => h) (by decide) (by kernel_rfl) (by kernel_rfl) hc ⟨by rfl, fun w hw => by have hw2 := hw; go_simp⟩ ?_
        try go_frame
        refine Tkc.takeC (i := 4) (v := .string (⟨#[103, 112, 117]⟩ ++ ⟨#[61]⟩)) rfl (by kernel_rfl) (by kernel_rfl) (by kernel_rfl) (fun _ _ _ h => h) (by decide) (by kernel_rfl) (by kernel_rfl) hc ⟨by rfl, fun w hw => by have hw2 := hw; go_simp⟩ ?_
        try go_frame
        refine Tkc.onlyC (i := 6) rfl (by kernel_rfl) (fun _ => hc) (by rfl) (fun K hK => ?_)
        go_simp
        refine hfm.mono ?_
        rintro e w6 ⟨rfl, hb6⟩
        refine hK _ _ ?_
        clear hK K
        have hc : w6.cell? ⟨0, 2, none⟩ = some (.string ⟨#[103, 112, 117]⟩) := (hb6.cell (p := ⟨0, 2, none⟩) (World.block_lt_of_cell? _ _ hc)).trans hc
        have hrow6 := row_below hrow hb6
        have hB6 : Hid (Below w4.heap.size w4 w6) := hbd4.out.trans (hb6.mono hs4.out)
        have hs6 : w4.heap.size ≤ w6.heap.size := hB6.out.size
        have hz1 : (ByteArray.mk it.toArray).size ≤ 21 := by have := hil.out; simpa [ByteArray.size] using this
        try go_frame
        have hnl : ¬ (9223372036854775807 < 4 + it.length) := by have := hil.out; omega
        refine Tkc.onlyC (i := 7) rfl (by kernel_rfl) (fun _ => hc) (by rfl) (fun K hK => ?_)
        go_simp
        refine hK _ _ ?_
        clear hK K
        try go_frame
        obtain ⟨sv, hsv⟩ : ∃ sv : ByteArray, (⟨#[103, 112, 117]⟩ ++ ⟨#[61]⟩ ++ ⟨it.toArray⟩ : ByteArray) = sv := ⟨_, rfl⟩
        have hsvH : Hid ((⟨#[103, 112, 117]⟩ ++ ⟨#[61]⟩ ++ ⟨it.toArray⟩ : ByteArray) = sv) := hsv
        try rw [hsv]
        clear hsv
        refine Tkc.onlyC (i := 8) rfl (by kernel_rfl) (fun _ => hc) (by rfl) (fun K hK => ?_)
        go_simp
        refine hK _ _ ?_
        clear hK K
        have hbA : Below w6.heap.size w6 (w6.alloc (.cells #[.string sv] 9)) := (Below.refl _ _).alloc (Nat.le_refl _) _
        have hc : (w6.alloc (.cells #[.string sv] 9)).cell? ⟨0, 2, none⟩ = some (.string ⟨#[103, 112, 117]⟩) := (hbA.cell (p := ⟨0, 2, none⟩) (World.block_lt_of_cell? _ _ hc)).trans hc
        have hnw := cells_new w6 [.string sv] 9
        try go_frame
        refine Tkc.onlyC (i := 9) rfl (by kernel_rfl) (fun _ => hc) (by rfl) (fun K hK => ?_)
        refine step_apps (base := w4.heap.size) (.tmp 22) (.tmp 30) rfl (hrow6.alloc _) (by simp [Act.eval]) ⟨by simp [Act.eval], rfl⟩ hnw (Nat.le_trans hm3.out (by decide)) (by simp; omega) ?_
        intro g7 cap7 w7 hown7 hgA hloc
        refine hK _ _ ?_
        clear hK K
        have hb7 : Below w4.heap.size (w6.alloc (.cells #[.string sv] 9)) w7 := (Below.refl _ _).grown hgA (by simp; omega) (fun k hk => (hrow6.lt k hk).1)
        have hlt4 : 0 < w4.heap.size := Nat.lt_of_lt_of_le hgm.out hB4.out.size
        have hc : w7.cell? ⟨0, 2, none⟩ = some (.string ⟨#[103, 112, 117]⟩) := (hb7.cell (p := ⟨0, 2, none⟩) hlt4).trans hc
        have hB7 : Hid (Below w4.heap.size w4 w7) := (hB6.out.trans (hbA.mono hs6)).trans hb7
        try go_frame
        refine Tkc.onlyC (i := 10) rfl (by kernel_rfl) (fun _ => hc) (by rfl) (fun K hK => ?_)
        go_simp
        refine hK _ _ ?_
        clear hK K
        refine Tkc.doneC (by kernel_rfl) (fun hz => by have hz' : true = false := hz; cases hz') ?_
        clear hc hnw hbA hb7 hloc hgA hrow hrow6 hb6
        go_wp2
        have hitm : sv = ⟨(itN 2 a.z).toArray⟩ := by
          rw [← hsvH.out, show (#[61] : Array UInt8) = [61].toArray from rfl, show (#[103, 112, 117] : Array UInt8) = (nmB 2).toArray from rfl, ByteArray.mk_append_mk, ByteArray.mk_append_mk, ← hitH.out, itN, List.append_assoc]
        have hl1 : (itL a 3).length = m + 1 := by rw [hL.out, List.length_append, hmH.out]; rfl
        refine ⟨⟨3, some ⟨g7, 0, none⟩, cap7, Or.inr (Or.inr (Or.inr ⟨rfl, by first | rfl | simp⟩)), by rw [hl1], ?_, hB7.out⟩, ?_⟩
        · rw [hl1, hL.out, strs, List.map_append, ← strs]
          rw [hitm] at hown7
          exact hown7
        · simp [intOf]
    · by_cases he : itL a 3 = []
      · have hl0 : (itL a 3).length = 0 := by rw [he]; rfl
        have htx : txN a = [45] := if_pos he
        have htxH : Hid (txN a = [45]) := htx
        clear htx he
        rw [hl0]
        go_wp2
        go_ret2
        exact ⟨by rw [htxH.out]; rfl, hBr.out⟩
      · have htxH : Hid (txN a = Lib.join (itL a 3) [44]) := if_neg he
        obtain ⟨m, hm⟩ : ∃ m, (itL a 3).length = m + 1 := ⟨(itL a 3).length - 1, by
          have : (itL a 3).length ≠ 0 := fun h => he (List.length_eq_zero_iff.1 h)
          omega⟩
        have hown := hownH.out
        rw [hm] at hown
        obtain ⟨gb, cb, hv⟩ := form_succ hown
        obtain ⟨rfl, rfl⟩ : p = some ⟨gb, 0, none⟩ ∧ c = cb := by simpa using hv
        have hjo := Tryd.strings_Join gb 0 c ((itL a 3).map fun s => ⟨s.toArray⟩) ⟨#[44]⟩ wr (fun j x hx => by
          rw [Nat.zero_add, hown.cellAt j (by have := (List.getElem?_eq_some_iff.1 hx).1; simp at this; omega)]
          unfold strs
          rw [List.getElem?_map] at hx ⊢
          cases hs : (itL a 3)[j]? with
          | none => rw [hs] at hx; cases hx
          | some s => rw [hs] at hx; cases hx; rfl) (hown.lt gb rfl).2 (by have := itL_len a 3; simp; omega) (by
            rcases hown.2 with ⟨_, h0⟩ | ⟨g, cap', cur, hv2, _, _, hcap, _⟩
            · omega
            · obtain ⟨_, rfl⟩ : gb = g ∧ c = cap' := by simpa using hv2
              simp; omega) (by
            have := join_len haH.out
            rw [List.map_map]
            have e : (itL a 3).map ((fun x : ByteArray => x.data.toList) ∘ fun s : List UInt8 => (⟨s.toArray⟩ : ByteArray)) = itL a 3 := by
              conv => rhs; rw [← List.map_id (itL a 3)]
              rfl
            rw [e]
            show (Lib.join (itL a 3) [44]).length ≤ _
            omega)
        have e : ((itL a 3).map fun s : List UInt8 => (⟨s.toArray⟩ : ByteArray)).map (·.data.toList) = itL a 3 := by
          rw [List.map_map]
          conv => rhs; rw [← List.map_id (itL a 3)]
          rfl
        rw [e, List.length_map, hm, show ((⟨#[44]⟩ : ByteArray).data.toList) = [44] from rfl] at hjo
        rw [hm]
        have hmz : (((m + 1 : Nat) : Int) == 0) = false := by simp; omega
        clear he hm hv hown e
        generalize Lib.join (itL a 3) [44] = jt at *
        go_wp2_with (first
          | (go_at_call 37; refine hjo.mono ?_; rintro e w7 ⟨rfl, hb7⟩; clear hjo)
          | go_in)
        go_ret2
        exact ⟨by rw [htxH.out]; rfl, hBr.out.trans (hb7.mono hBr.out.size)⟩

set_option maxHeartbeats 1000000 in
set_option maxRecDepth 100000 in
theorem Text_bad (a : N3) (w : World) (ha : okN a = false) : Calls Tryd.prog 9 #[(.agg #[.int .i64 a.x, .int .i64 a.y, .int .i64 a.z])] w fun e w' => e = .returned (.tuple #[.string ⟨#[]⟩, .int .i64 4]) ∧ Below w.heap.size w w' := by
  have hsz1 : w.heap.size ≤ (w.alloc (.cells #[.int .i64 a.x, .int .i64 a.y, .int .i64 a.z] 23)).heap.size := by simp
  have hBH : Hid (Below w.heap.size w (w.alloc (.cells #[.int .i64 a.x, .int .i64 a.y, .int .i64 a.z] 23))) := (Below.refl _ _).alloc (Nat.le_refl _) _
  have hck := check_one (w.alloc (.cells #[.int .i64 a.x, .int .i64 a.y, .int .i64 a.z] 23)) a (w.heap.size + 1) (by simp)
  rw [ha, show ce false = 4 from rfl] at hck
  clear ha
  go_enter Tryd.func9, Tryd.ntmps9
  go_wp2_with (first
    | (go_at_call 34; refine hck.mono ?_; rintro e w3 ⟨rfl, hb3⟩; have hB3 : Below w.heap.size w w3 := hBH.out.trans (hb3.mono hsz1); clear hck)
    | go_in)
  go_ret2
  exact ⟨rfl, hB3⟩
end Go.Proofs.YtmhidmocmolgfaaDoor
