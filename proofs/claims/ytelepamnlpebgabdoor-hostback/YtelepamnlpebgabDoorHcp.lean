/- host.copied, walked. -/
import Derived.Test.YtelepamnlpebgabDoorHbe
import Derived.Shelf.Strconv.Clone
namespace Go.Proofs.YtelepamnlpebgabDoor
open Go.RowKit Go.Shelf Akm Ndm
set_option linter.unusedSectionVars false
set_option linter.unusedVariables false

theorem clone_any (s : ByteArray) (hs : s.size ≤ 20) (w : World) : Calls Tryd.prog 79 #[.string s] w fun e w' => e = .returned (.string s) ∧ Below w.heap.size w w' := by
  have hc := Tryd.stringslite_Clone s w (by omega)
  clear hs
  go_enter Tryd.func79, Tryd.ntmps79
  go_wp2_with (first
    | (go_at_call 92; refine hc.mono ?_; rintro e w3 ⟨rfl, hb3⟩; clear hc)
    | go_in)
  go_ret
  exact ⟨rfl, hb3⟩
theorem lb_size {s : ByteArray} (h : lbB s.data.toList = true) : s.size ≤ 20 := by
  unfold lbB at h
  simp only [Bool.and_eq_true, decide_eq_true_eq] at h
  have : s.data.toList.length = s.size := by simp
  omega
/-- Labels' cells, one behind the other. -/
def flL : List (ByteArray × ByteArray) → List Value
  | [] => []
  | x :: r => .string x.1 :: .string x.2 :: flL r
theorem flL_app : ∀ (l r : List (ByteArray × ByteArray)), flL (l ++ r) = flL l ++ flL r
  | [], r => rfl
  | x :: l, r => by rw [List.cons_append, flL, flL, flL_app l r]; rfl
theorem flL_len : ∀ l : List (ByteArray × ByteArray), (flL l).length = l.length * 2
  | [] => rfl
  | x :: r => by rw [flL, List.length_cons, List.length_cons, flL_len r, List.length_cons]; omega
theorem flL_at : ∀ (l : List (ByteArray × ByteArray)) (j : Nat) (x : ByteArray × ByteArray), l[j]? = some x → (flL l)[j * 2]? = some (.string x.1) ∧ (flL l)[j * 2 + 1]? = some (.string x.2)
  | y :: r, 0, x, h => by
    obtain rfl : y = x := by simpa using h
    exact ⟨rfl, rfl⟩
  | y :: r, j + 1, x, h => by
    have ih := flL_at r j x (by simpa using h)
    rw [flL, show (j + 1) * 2 = j * 2 + 1 + 1 by omega]
    exact ⟨by simpa using ih.1, by simpa using ih.2⟩
/-- Labels in a block of their own, from a block on. -/
def LbF (B : Nat) (w : World) (p : Option Addr) (L : List (ByteArray × ByteArray)) : Prop := L = [] ∨ ∃ b, p = some ⟨b, 0, none⟩ ∧ B ≤ b ∧ b < w.heap.size ∧ ∀ j x, L[j]? = some x → w.cell? ⟨b, j * 2, none⟩ = some (.string x.1) ∧ w.cell? ⟨b, j * 2 + 1, none⟩ = some (.string x.2)
theorem LbF.lbs {B : Nat} {w : World} {p : Option Addr} {L : List (ByteArray × ByteArray)} (h : LbF B w p L) : Lbs w p L := by
  refine h.imp id ?_
  rintro ⟨b, h1, _, h2, h3⟩
  exact ⟨b, 0, h1, h2, fun j x hx => by simpa using h3 j x hx⟩
theorem LbF.of {B : Nat} {w : World} {p : Option Addr} {L : List (ByteArray × ByteArray)} {n c : Nat} (hn : L.length = n) (h : w.ownsRow B 67 2 (.slice p n c) n (flL L)) : LbF B w p L ∧ n ≤ c := by
  rcases h.2 with ⟨e, h0⟩ | ⟨g, c2, cur, e, h1, h2, h3, _⟩
  · simp only [Value.slice.injEq] at e
    refine ⟨Or.inl (List.eq_nil_of_length_eq_zero (by omega)), by omega⟩
  · simp only [Value.slice.injEq] at e
    obtain ⟨rfl, _, rfl⟩ := e
    refine ⟨Or.inr ⟨g, rfl, h1, (Array.getElem?_eq_some_iff.1 h2).1, fun j x hx => ?_⟩, h3⟩
    have hj := (List.getElem?_eq_some_iff.1 hx).1
    obtain ⟨a0, a1⟩ := flL_at L j x hx
    rw [h.cellAt (j * 2) (by omega), h.cellAt (j * 2 + 1) (by omega)]
    exact ⟨a0, a1⟩
theorem LbF.row {B : Nat} {w : World} {p : Option Addr} {L : List (ByteArray × ByteArray)} (h : LbF B w p L) {g : Nat} (hg : g < B) (cs : Array Value) : LbF B (w.setRow g cs) p L := by
  refine h.imp id ?_
  rintro ⟨b, h1, h2, h3, h4⟩
  refine ⟨b, h1, h2, by simpa [World.setRow] using h3, fun j x hx => ?_⟩
  have e := setRow_other w g b cs (by omega)
  obtain ⟨a0, a1⟩ := h4 j x hx
  unfold World.cell? at a0 a1 ⊢
  rw [e]
  exact ⟨a0, a1⟩
theorem LbF.le {B B' : Nat} {w : World} {p : Option Addr} {L : List (ByteArray × ByteArray)} (h : LbF B w p L) (hB : B' ≤ B) : LbF B' w p L := by
  refine h.imp id ?_
  rintro ⟨b, h1, h2, h3, h4⟩
  exact ⟨b, h1, Nat.le_trans hB h2, h3, h4⟩
theorem info_label : (Tryd.prog.info? 67).map (fun i => (i.zero, i.size, i.bytes)) = some (some (.agg #[.string ByteArray.empty, .string ByteArray.empty]), 2, 32) := by kernel_rfl
theorem host_info3 (cs : Array Value) (h : cs.size = 8) : (Tryd.prog.info? 30).map (·.size) = some cs.size := host_info cs h

/-- An append of one label, as an operation. -/
theorem step_appL {w : World} {o : Oper} {a : Act} {Q : Exit → Act → World → Prop} {K : Act → World → Prop} {base : Nat} (s x : Operand) (hop : o.op = Op.call { callee := Callee.builtin Builtin.append, args := #[s, x], argTypes := #[28, 28] })
    {p : Option Addr} {m c : Nat} {xs : List Value} {u v : ByteArray} {ad : Addr} (hown : w.ownsRow base 67 2 (.slice p m c) m xs) (hs : a.eval s = .slice p m c) (hx : a.eval x = .slice (some ad) 1 1) (hnews : ∀ (j : Nat) (y : Value), [Value.string u, Value.string v][j]? = some y → w.cell? (ad.add j) = some y) (hm : m ≤ 400) (hbase : base ≤ w.heap.size)
    (h : ∀ g' c' w', w'.ownsRow base 67 2 (.slice (some ⟨g', 0, none⟩) (m + 1) c') (m + 1) (xs ++ [.string u, .string v]) → w.grownBy w' (Value.ownBlock (.slice p m c)) → K (a.put o.dst (.slice (some ⟨g', 0, none⟩) (m + 1) c')) w') : o.wp Tryd.prog a w K Q := by
  obtain ⟨i0, hi, hz0, hz1, hz2⟩ := info_parts info_label
  obtain ⟨v', w', hr, h2, h3, h4, h5⟩ := run_append_own_at (P := Tryd.prog) w base 28 o.type 67 i0 (.agg #[.string ByteArray.empty, .string ByteArray.empty]) 2 32 Tryd.underlying28 hi hz0 hz1 hz2 rfl (by decide) _ _ xs hown ad 1 1 [.string u, .string v] rfl hnews (fun y hy => by
    rcases List.mem_cons.1 hy with e | e
    · rw [e]; rfl
    · rw [List.mem_singleton.1 e]; rfl) (by unfold maxLen; omega) (by omega) hbase
  obtain ⟨g', c', rfl⟩ := form_succ h2
  unfold Oper.wp execOp
  simp only [hop, resolve, invoke, builtin, Sem.run_bind, Sem.run_pure, Result.andThen_ok, List.map_toArray, List.map_cons, List.map_nil, hs, hx, hr]
  exact h g' c' w' h2 h3

theorem grown_block {w w' : World} {v : Value} {n : Nat} {B : Nat} {xs : List Value} {e : TypeId} {k : Nat} (hr : w.ownsRow B e k v n xs) (hg : w.grownBy w' v.ownBlock) {b : Nat} {ob : Obj} (hb : w.heap[b]? = some ob) (hlt : b < B) : w'.heap[b]? = some ob := by
  have hl := (Array.getElem?_eq_some_iff.1 hb).1
  rw [hg.block b hl (fun e => by have := (hr.lt b e.symm).1; omega)]
  exact hb
theorem grown_below {B : Nat} {w w' w0 : World} {v : Value} {n : Nat} {xs : List Value} {e : TypeId} {k : Nat} (h : Below B w0 w) (hr : w.ownsRow B e k v n xs) (hg : w.grownBy w' v.ownBlock) (hB : B ≤ w.heap.size) : Below B w0 w' :=
  ⟨hg.os.trans h.os, hg.tape.trans h.tape, hg.output.trans h.output, Nat.le_trans h.size hg.size, fun q hq => by rw [hg.block q (by omega) (fun e => by have := (hr.lt q e.symm).1; omega)]; exact h.block q hq⟩

set_option maxHeartbeats 8000000 in
set_option maxRecDepth 100000 in
theorem copied_any (nm : ByteArray) (pl : Option Addr) (L : List (ByteArray × ByteArray)) (ln cl : Nat) (hln : L.length = ln) (hs us : N3) (hnm : nm.size ≤ 20) (hL8 : ln ≤ 8) (hLs : ∀ x ∈ L, x.1.size ≤ 20 ∧ x.2.size ≤ 20) (w : World) (hL : Lbs w pl L) :
    Calls Tryd.prog 63 #[.agg #[.string nm, .slice pl ln cl, .int .i64 hs.x, .int .i64 hs.y, .int .i64 hs.z, .int .i64 us.x, .int .i64 us.y, .int .i64 us.z]] w fun e w' => (∃ p c, e = .returned (.agg #[.string nm, .slice p ln c, .int .i64 hs.x, .int .i64 hs.y, .int .i64 hs.z, .int .i64 us.x, .int .i64 us.y, .int .i64 us.z]) ∧ LbF w.heap.size w' p L ∧ ln ≤ c) ∧ Below w.heap.size w w' := by
  have hB : Below w.heap.size w ((w.alloc (.cells #[.string nm, .slice pl ln cl, .int .i64 hs.x, .int .i64 hs.y, .int .i64 hs.z, .int .i64 us.x, .int .i64 us.y, .int .i64 us.z] 30)).alloc (.cells #[.string ⟨#[]⟩, .slice none 0 0, .int .i64 0, .int .i64 0, .int .i64 0, .int .i64 0, .int .i64 0, .int .i64 0] 30)) := ((Below.refl _ _).alloc (Nat.le_refl _) _).alloc (by simp) _
  have hsz : ((w.alloc (.cells #[.string nm, .slice pl ln cl, .int .i64 hs.x, .int .i64 hs.y, .int .i64 hs.z, .int .i64 us.x, .int .i64 us.y, .int .i64 us.z] 30)).alloc (.cells #[.string ⟨#[]⟩, .slice none 0 0, .int .i64 0, .int .i64 0, .int .i64 0, .int .i64 0, .int .i64 0, .int .i64 0] 30)).heap.size = w.heap.size + 2 := by simp
  have g0 : ((w.alloc (.cells #[.string nm, .slice pl ln cl, .int .i64 hs.x, .int .i64 hs.y, .int .i64 hs.z, .int .i64 us.x, .int .i64 us.y, .int .i64 us.z] 30)).alloc (.cells #[.string ⟨#[]⟩, .slice none 0 0, .int .i64 0, .int .i64 0, .int .i64 0, .int .i64 0, .int .i64 0, .int .i64 0] 30)).heap[w.heap.size]? = some (.cells #[.string nm, .slice pl ln cl, .int .i64 hs.x, .int .i64 hs.y, .int .i64 hs.z, .int .i64 us.x, .int .i64 us.y, .int .i64 us.z] 30 (0, 0)) := (Below.heap_alloc _ _ _ (by simp)).trans (heap_alloc_new _ _)
  have z0 : ((w.alloc (.cells #[.string nm, .slice pl ln cl, .int .i64 hs.x, .int .i64 hs.y, .int .i64 hs.z, .int .i64 us.x, .int .i64 us.y, .int .i64 us.z] 30)).alloc (.cells #[.string ⟨#[]⟩, .slice none 0 0, .int .i64 0, .int .i64 0, .int .i64 0, .int .i64 0, .int .i64 0, .int .i64 0] 30)).heap[w.heap.size + 1]? = some (.cells #[.string ⟨#[]⟩, .slice none 0 0, .int .i64 0, .int .i64 0, .int .i64 0, .int .i64 0, .int .i64 0, .int .i64 0] 30 (0, 0)) := by
    have h := heap_alloc_new (w.alloc (.cells #[.string nm, .slice pl ln cl, .int .i64 hs.x, .int .i64 hs.y, .int .i64 hs.z, .int .i64 us.x, .int .i64 us.y, .int .i64 us.z] 30)) (.cells #[.string ⟨#[]⟩, .slice none 0 0, .int .i64 0, .int .i64 0, .int .i64 0, .int .i64 0, .int .i64 0, .int .i64 0] 30)
    rw [World.size_alloc] at h
    exact h
  have hLH : Hid (Lbs w pl L) := hL
  have hlnH : Hid (L.length = ln) := hln
  have hLsH : Hid (∀ x ∈ L, x.1.size ≤ 20 ∧ x.2.size ≤ 20) := hLs
  have hnmH : Hid (nm.size ≤ 20) := hnm
  have hL8i : (ln : Int) ≤ 8 := by omega
  clear hL hln hLs hnm hL8
  go_enter Tryd.func63, Tryd.ntmps63
  go_wp2
  generalize hw2e : (w.alloc (.cells #[.string nm, .slice pl ln cl, .int .i64 hs.x, .int .i64 hs.y, .int .i64 hs.z, .int .i64 us.x, .int .i64 us.y, .int .i64 us.z] 30)).alloc (.cells #[.string ⟨#[]⟩, .slice none 0 0, .int .i64 0, .int .i64 0, .int .i64 0, .int .i64 0, .int .i64 0, .int .i64 0] 30) = w2 at *
  clear hw2e
  have hBH : Hid (Below w.heap.size w w2) := hB
  have hszH : Hid (w2.heap.size = w.heap.size + 2) := hsz
  have g0H : Hid (w2.heap[w.heap.size]? = some (.cells #[.string nm, .slice pl ln cl, .int .i64 hs.x, .int .i64 hs.y, .int .i64 hs.z, .int .i64 us.x, .int .i64 us.y, .int .i64 us.z] 30 (0, 0))) := g0
  have z0H : Hid (w2.heap[w.heap.size + 1]? = some (.cells #[.string ⟨#[]⟩, .slice none 0 0, .int .i64 0, .int .i64 0, .int .i64 0, .int .i64 0, .int .i64 0, .int .i64 0] 30 (0, 0))) := z0
  clear hB hsz g0 z0
  go_loopw [3, 9] (fun lv iv wr => ∃ (j : Nat) (p : Option Addr) (c : Nat), iv = .int .i64 j ∧ lv = .slice p j c ∧ j ≤ ln ∧ Hid (wr.ownsRow w2.heap.size 67 2 (.slice p j c) j (flL (L.take j))) ∧ Hid (Below w2.heap.size w2 wr)) (fun _ iv _ => ln - (intOf iv).toNat)
  case atStart => exact ⟨0, none, 0, rfl, rfl, Nat.zero_le _, World.ownsRow_nil _ _ _ _, Below.refl _ _⟩
  case round =>
    obtain ⟨j, p, c, rfl, rfl, hj, hown, hbl⟩ := hrel
    by_cases hjl : j < ln
    · obtain ⟨x, hx⟩ : ∃ x, L[j]? = some x := ⟨L[j]'(by rw [hlnH.out]; exact hjl), List.getElem?_eq_getElem _⟩
      obtain ⟨g, o, rfl, hg, hc⟩ := hLH.out.resolve_left (fun e => by have := hlnH.out; rw [e] at this; simp at this; omega)
      have hbw : Below w.heap.size w wr := hBH.out.trans (hbl.out.mono (by rw [hszH.out]; omega))
      have q0 := (hbw.cell (p := ⟨g, o + j * 2, none⟩) hg).trans (hc j x hx).1
      have q1 := (hbw.cell (p := ⟨g, o + j * 2 + 1, none⟩) hg).trans (hc j x hx).2
      obtain ⟨s1, s2⟩ := hLsH.out x (List.mem_of_getElem? hx)
      have htk : flL (L.take (j + 1)) = flL (L.take j) ++ [.string x.1, .string x.2] := by
        have hj2 := (List.getElem?_eq_some_iff.1 hx).1
        rw [List.take_succ_eq_append_getElem hj2, flL_app, (List.getElem?_eq_some_iff.1 hx).2]
        rfl
      have htkH : Hid (flL (L.take (j + 1)) = flL (L.take j) ++ [.string x.1, .string x.2]) := htk
      obtain ⟨key, val⟩ := x
      have hlt : (j : Int) < (ln : Int) := by omega
      have hj8 : (j : Int) < 8 := by omega
      have hjH : Hid (j < ln) := hjl
      have ck := fun w1 => clone_any key s1 w1
      have cv := fun w1 => clone_any val s2 w1
      have fl0 := heap_alloc_new wr (.cells #[.string key, .string val] 67)
      have hba : Below w2.heap.size w2 (wr.alloc (.cells #[.string key, .string val] 67)) := hbl.out.alloc hbl.out.size _
      have hbd : Hid (Below w2.heap.size w2 (wr.alloc (.cells #[.string key, .string val] 67)).drew) := hba.drew
      have hod : Hid ((wr.alloc (.cells #[.string key, .string val] 67)).drew.ownsRow w2.heap.size 67 2 (.slice p j c) j (flL (L.take j))) := (hown.out.alloc _).drew
      have hgt : Hid (w2.heap.size ≤ wr.heap.size) := hbl.out.size
      have hne : Hid ((Value.slice p j c).ownBlock ≠ some wr.heap.size) := fun e => absurd (hown.out.lt _ e).2 (Nat.lt_irrefl _)
      clear hx hc htk hj hjl hbw s1 s2 hba hown hbl
      go_wp2
      have fld : (wr.alloc (.cells #[.string key, .string val] 67)).drew.heap[wr.heap.size]? = some (.cells #[.string key, .string val] 67 (0, 0)) := fl0
      clear fl0 q0 q1
      refine Tkc.region_anyC (C := fun w' => w'.heap[wr.heap.size]? = some (.cells #[.string key, .string val] 67 (0, 0))) (s := 11) (by kernel_rfl) ?_
      have hgtw : wr.heap.size < (wr.alloc (.cells #[.string key, .string val] 67)).drew.heap.size := (Array.getElem?_eq_some_iff.1 fld).1
      generalize (wr.alloc (.cells #[.string key, .string val] 67)).drew = wd at *
      generalize wr.heap.size = gt at *
      have hcz : wd.heap[gt]? = some (.cells #[.string key, .string val] 67 (0, 0)) := fld
      have hcl : ∀ w' : World, w'.heap[gt]? = some (.cells #[.string key, .string val] 67 (0, 0)) → w'.cell? ⟨gt, 0, none⟩ = some (.string key) ∧ w'.cell? ⟨gt, 1, none⟩ = some (.string val) := fun w' h => ⟨(cell_of_row _ _ 0 _ _ _ h).trans rfl, (cell_of_row _ _ 1 _ _ _ h).trans rfl⟩
      clear fld
      refine Tkc.takeC (i := 0) (v := .slice p j c) rfl (by kernel_rfl) (by kernel_rfl) (by kernel_rfl) (fun _ _ _ h => h) (by decide) (by kernel_rfl) (by kernel_rfl) hcz ⟨by rfl, fun wq hw => by obtain ⟨z0, z1⟩ := hcl wq hw; go_simp⟩ ?_
      try go_frame
      refine Tkc.takeC (i := 1) (v := .pointer (some ⟨gt, 0, none⟩)) rfl (by kernel_rfl) (by kernel_rfl) (by kernel_rfl) (fun _ _ _ h => h) (by decide) (by kernel_rfl) (by kernel_rfl) hcz ⟨by rfl, fun wq hw => by obtain ⟨z0, z1⟩ := hcl wq hw; go_simp⟩ ?_
      try go_frame
      refine Tkc.takeC (i := 2) (v := .string key) rfl (by kernel_rfl) (by kernel_rfl) (by kernel_rfl) (fun _ _ _ h => h) (by decide) (by kernel_rfl) (by kernel_rfl) hcz ⟨by rfl, fun wq hw => by obtain ⟨z0, z1⟩ := hcl wq hw; go_simp⟩ ?_
      try go_frame
      refine Tkc.takeC (i := 4) (v := .pointer (some ⟨gt, 1, none⟩)) rfl (by kernel_rfl) (by kernel_rfl) (by kernel_rfl) (fun _ _ _ h => h) (by decide) (by kernel_rfl) (by kernel_rfl) hcz ⟨by rfl, fun wq hw => by obtain ⟨z0, z1⟩ := hcl wq hw; go_simp⟩ ?_
      try go_frame
      refine Tkc.takeC (i := 5) (v := .string val) rfl (by kernel_rfl) (by kernel_rfl) (by kernel_rfl) (fun _ _ _ h => h) (by decide) (by kernel_rfl) (by kernel_rfl) hcz ⟨by rfl, fun wq hw => by obtain ⟨z0, z1⟩ := hcl wq hw; go_simp⟩ ?_
      try go_frame
      clear hcl
      refine Tkc.onlyC (i := 3) rfl (by kernel_rfl) (fun _ => hcz) (by rfl) (fun K hK => ?_)
      go_simp
      refine (ck wd).mono ?_
      rintro e w3 ⟨rfl, hb3⟩
      have hcz3 := (hb3.block gt hgtw).trans hcz
      have ho3 : Hid (w3.ownsRow w2.heap.size 67 2 (.slice p j c) j (flL (L.take j))) := row_below hod.out hb3
      have hbd3 : Hid (Below w2.heap.size w2 w3) := hbd.out.trans (hb3.mono hbd.out.size)
      have hg3 : gt < w3.heap.size := Nat.lt_of_lt_of_le hgtw hb3.size
      clear ck hb3
      refine hK _ _ ?_
      clear hK K
      try go_frame
      refine Tkc.onlyC (i := 6) rfl (by kernel_rfl) (fun _ => hcz3) (by rfl) (fun K hK => ?_)
      go_simp
      refine (cv w3).mono ?_
      rintro e w4 ⟨rfl, hb4⟩
      have hcz4 := (hb4.block gt hg3).trans hcz3
      have ho4 : Hid (w4.ownsRow w2.heap.size 67 2 (.slice p j c) j (flL (L.take j))) := row_below ho3.out hb4
      have hbd4 : Hid (Below w2.heap.size w2 w4) := hbd3.out.trans (hb4.mono hbd3.out.size)
      clear cv hb4
      refine hK _ _ ?_
      clear hK K
      try go_frame
      refine Tkc.onlyC (i := 7) rfl (by kernel_rfl) (fun _ => hcz4) (by rfl) (fun K hK => ?_)
      go_simp
      refine hK _ _ ?_
      clear hK K
      try go_frame
      refine Tkc.onlyC (i := 8) rfl (by kernel_rfl) (fun _ => hcz4) (by rfl) (fun K hK => ?_)
      go_simp
      have hcz5 := (Below.heap_alloc w4 (.cells #[.string key, .string val] 67) gt (Array.getElem?_eq_some_iff.1 hcz4).1).trans hcz4
      have ho5 : (w4.alloc (.cells #[.string key, .string val] 67)).ownsRow w2.heap.size 67 2 (.slice p j c) j (flL (L.take j)) := ho4.out.alloc _
      have hbd5 : Below w2.heap.size w2 (w4.alloc (.cells #[.string key, .string val] 67)) := hbd4.out.alloc hbd4.out.size _
      have hnw := cells_new w4 [.string key, .string val] 67
      have ho5H : Hid ((w4.alloc (.cells #[.string key, .string val] 67)).ownsRow w2.heap.size 67 2 (.slice p j c) j (flL (L.take j))) := ho5
      have hbd5H : Hid (Below w2.heap.size w2 (w4.alloc (.cells #[.string key, .string val] 67))) := hbd5
      have hnwH : Hid (∀ (q : Nat) (u : Value), [Value.string key, Value.string val][q]? = some u → (w4.alloc (.cells #[.string key, .string val] 67)).cell? ((⟨w4.heap.size, 0, none⟩ : Addr).add q) = some u) := hnw
      clear ho5 hbd5 hnw
      generalize w4.alloc (.cells #[.string key, .string val] 67) = w5 at *
      generalize w4.heap.size = g4 at *
      refine hK _ _ ?_
      clear hK K
      try go_frame
      refine Tkc.onlyC (i := 9) rfl (by kernel_rfl) (fun _ => hcz5) (by rfl) (fun K hK => ?_)
      refine step_appL _ _ rfl ho5H.out rfl rfl hnwH.out (by omega) hbd5H.out.size ?_
      intro g6 c6 w6 ho6 hgr
      have hcz6 : w6.heap[gt]? = some (.cells #[.string key, .string val] 67 (0, 0)) := by
        rw [hgr.block gt (Array.getElem?_eq_some_iff.1 hcz5).1 (fun e => hne.out e.symm)]
        exact hcz5
      have ho6H : Hid (w6.ownsRow w2.heap.size 67 2 (.slice (some ⟨g6, 0, none⟩) (j + 1) c6) (j + 1) (flL (L.take (j + 1)))) := by
        show World.ownsRow _ _ _ _ _ _ _
        rw [htkH.out]
        exact ho6
      have hbd6H : Hid (Below w2.heap.size w2 w6) := grown_below hbd5H.out ho5H.out hgr hbd5H.out.size
      clear ho6 hgr
      refine hK _ _ ?_
      clear hK K
      try go_frame
      refine Tkc.onlyC (i := 10) rfl (by kernel_rfl) (fun _ => hcz6) (by rfl) (fun K hK => ?_)
      go_simp
      refine hK _ _ ?_
      clear hK K
      try go_frame
      refine Tkc.doneC (by kernel_rfl) (fun _ => hcz6) ?_
      go_wp2
      refine ⟨⟨j + 1, some ⟨g6, 0, none⟩, c6, by first | rfl | simp, by first | rfl | simp, hjH.out, ho6H, hbd6H⟩, ?_⟩
      have := hjH.out
      simp [intOf]
      omega
    · have hlt : ¬ (j : Int) < (ln : Int) := by omega
      obtain rfl : j = ln := by omega
      have ho : w2.heap.size = w2.heap.size := rfl
      have hown2 := hown.out
      rw [List.take_of_length_le (by rw [hlnH.out]; exact Nat.le_refl _)] at hown2
      have hfin : Hid (wr.ownsRow w2.heap.size 67 2 (.slice p j c) j (flL L)) := hown2
      have hbd : Hid (Below w2.heap.size w2 wr.drew) := hbl.out.drew
      have hod : Hid (wr.drew.ownsRow w2.heap.size 67 2 (.slice p j c) j (flL L)) := hown2.drew
      clear hown hown2 ho hfin hbl hj
      go_wp2
      refine Tkc.region_anyC (C := fun w' => Below (w.heap.size + 1) w2 w') (s := 10) (by kernel_rfl) ?_
      generalize wr.drew = wd at *
      have hczF : Below w2.heap.size w2 wd := hbd.out
      have hcz : Below (w.heap.size + 1) w2 wd := hbd.out.mono (by rw [hszH.out]; omega)
      have cn := fun w1 => clone_any nm hnmH.out w1
      have hcl : ∀ w' : World, Below (w.heap.size + 1) w2 w' → (w'.cell? ⟨w.heap.size, 0, none⟩ = some (.string nm) ∧ (w'.cell? ⟨w.heap.size, 2, none⟩ = some (.int .i64 hs.x) ∧ w'.cell? ⟨w.heap.size, 3, none⟩ = some (.int .i64 hs.y) ∧ w'.cell? ⟨w.heap.size, 4, none⟩ = some (.int .i64 hs.z)) ∧ (w'.cell? ⟨w.heap.size, 5, none⟩ = some (.int .i64 us.x) ∧ w'.cell? ⟨w.heap.size, 6, none⟩ = some (.int .i64 us.y) ∧ w'.cell? ⟨w.heap.size, 7, none⟩ = some (.int .i64 us.z))) := fun w' h => by
        have hh := (h.block w.heap.size (by omega)).trans g0H.out
        exact ⟨(cell_of_row _ _ 0 _ _ _ hh).trans rfl, ⟨(cell_of_row _ _ 2 _ _ _ hh).trans rfl, (cell_of_row _ _ 3 _ _ _ hh).trans rfl, (cell_of_row _ _ 4 _ _ _ hh).trans rfl⟩, ⟨(cell_of_row _ _ 5 _ _ _ hh).trans rfl, (cell_of_row _ _ 6 _ _ _ hh).trans rfl, (cell_of_row _ _ 7 _ _ _ hh).trans rfl⟩⟩
      refine Tkc.takeC (i := 0) (v := .pointer (some ⟨w.heap.size, 0, none⟩)) rfl (by kernel_rfl) (by kernel_rfl) (by kernel_rfl) (fun _ _ _ h => h) (by decide) (by kernel_rfl) (by kernel_rfl) hcz ⟨by rfl, fun wq hw => by obtain ⟨z0, ⟨z1, z2, z3⟩, ⟨z4, z5, z6⟩⟩ := hcl wq hw; go_simp⟩ ?_
      try go_frame
      refine Tkc.takeC (i := 1) (v := .string nm) rfl (by kernel_rfl) (by kernel_rfl) (by kernel_rfl) (fun _ _ _ h => h) (by decide) (by kernel_rfl) (by kernel_rfl) hcz ⟨by rfl, fun wq hw => by obtain ⟨z0, ⟨z1, z2, z3⟩, ⟨z4, z5, z6⟩⟩ := hcl wq hw; go_simp⟩ ?_
      try go_frame
      refine Tkc.takeC (i := 3) (v := .slice p j c) rfl (by kernel_rfl) (by kernel_rfl) (by kernel_rfl) (fun _ _ _ h => h) (by decide) (by kernel_rfl) (by kernel_rfl) hcz ⟨by rfl, fun wq hw => by obtain ⟨z0, ⟨z1, z2, z3⟩, ⟨z4, z5, z6⟩⟩ := hcl wq hw; go_simp⟩ ?_
      try go_frame
      refine Tkc.takeC (i := 4) (v := .pointer (some ⟨w.heap.size, 2, none⟩)) rfl (by kernel_rfl) (by kernel_rfl) (by kernel_rfl) (fun _ _ _ h => h) (by decide) (by kernel_rfl) (by kernel_rfl) hcz ⟨by rfl, fun wq hw => by obtain ⟨z0, ⟨z1, z2, z3⟩, ⟨z4, z5, z6⟩⟩ := hcl wq hw; go_simp⟩ ?_
      try go_frame
      refine Tkc.takeC (i := 5) (v := .agg #[.int .i64 hs.x, .int .i64 hs.y, .int .i64 hs.z]) rfl (by kernel_rfl) (by kernel_rfl) (by kernel_rfl) (fun _ _ _ h => h) (by decide) (by kernel_rfl) (by kernel_rfl) hcz ⟨by rfl, fun wq hw => by obtain ⟨z0, ⟨z1, z2, z3⟩, ⟨z4, z5, z6⟩⟩ := hcl wq hw; go_simp⟩ ?_
      try go_frame
      refine Tkc.takeC (i := 6) (v := .pointer (some ⟨w.heap.size, 5, none⟩)) rfl (by kernel_rfl) (by kernel_rfl) (by kernel_rfl) (fun _ _ _ h => h) (by decide) (by kernel_rfl) (by kernel_rfl) hcz ⟨by rfl, fun wq hw => by obtain ⟨z0, ⟨z1, z2, z3⟩, ⟨z4, z5, z6⟩⟩ := hcl wq hw; go_simp⟩ ?_
      try go_frame
      refine Tkc.takeC (i := 7) (v := .agg #[.int .i64 us.x, .int .i64 us.y, .int .i64 us.z]) rfl (by kernel_rfl) (by kernel_rfl) (by kernel_rfl) (fun _ _ _ h => h) (by decide) (by kernel_rfl) (by kernel_rfl) hcz ⟨by rfl, fun wq hw => by obtain ⟨z0, ⟨z1, z2, z3⟩, ⟨z4, z5, z6⟩⟩ := hcl wq hw; go_simp⟩ ?_
      try go_frame
      clear hcl
      refine Tkc.onlyC (i := 2) rfl (by kernel_rfl) (fun _ => hcz) (by rfl) (fun K hK => ?_)
      go_simp
      refine (cn wd).mono ?_
      rintro e w3 ⟨rfl, hb3⟩
      have hcz3F : Below w2.heap.size w2 w3 := hczF.trans (hb3.mono hczF.size)
      have hcz3 : Below (w.heap.size + 1) w2 w3 := hcz3F.mono (by rw [hszH.out]; omega)
      have ho3 : Hid (w3.ownsRow w2.heap.size 67 2 (.slice p j c) j (flL L)) := row_below hod.out hb3
      have z3 := (hcz3F.block (w.heap.size + 1) (by rw [hszH.out]; omega)).trans z0H.out
      clear cn hb3
      refine hK _ _ ?_
      clear hK K
      try go_frame
      refine Tkc.onlyC (i := 8) rfl (by kernel_rfl) (fun _ => hcz3) (by rfl) (fun K hK => ?_)
      go_simp
      refine hK _ _ ?_
      clear hK K
      try go_frame
      refine Tkc.onlyC (i := 9) rfl (by kernel_rfl) (fun _ => hcz3) (by rfl) (fun K hK => ?_)
      refine wp_store_row 30 _ _ rfl (w.heap.size + 1) #[.string nm, .slice p j c, .int .i64 hs.x, .int .i64 hs.y, .int .i64 hs.z, .int .i64 us.x, .int .i64 us.y, .int .i64 us.z] rfl rfl _ _ z3 (host_info _ rfl) rfl (host_one _ _ _ _ _ _) ?_
      refine hK _ _ ?_
      clear hK K
      try go_frame
      refine Tkc.doneC (by kernel_rfl) (fun _ => below_row hcz3 (Nat.le_refl _)) ?_
      go_wp2
      refine bodyPost_ret (results_cell_row Tryd.results63 _ _ (w.heap.size + 1) _ #[.string nm, .slice p j c, .int .i64 hs.x, .int .i64 hs.y, .int .i64 hs.z, .int .i64 us.x, .int .i64 us.y, .int .i64 us.z] (0, 0) _ rfl (setRow_heap w3 (w.heap.size + 1) _ _ _ _ z3) Tryd.underlying30 rfl (host_info _ rfl)) rfl ?_
      obtain ⟨hF1, hF2⟩ := LbF.of hlnH.out ho3.out
      exact ⟨⟨p, c, rfl, (hF1.row (by rw [hszH.out]; omega) _).le (by rw [hszH.out]; omega), hF2⟩, below_row (hBH.out.trans (hcz3.mono (by omega))) (by omega)⟩
end Go.Proofs.YtelepamnlpebgabDoor
