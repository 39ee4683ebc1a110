/- sameAsk at one ask that lies twice; plain at one that is normal: walked. -/
import Derived.Test.YtelepamnlpebgaaDoorAnm
namespace Go.Proofs.YtelepamnlpebgaaDoor
open Go.RowKit Go.Shelf Akm Ndm
set_option linter.unusedSectionVars false
set_option linter.unusedVariables false

/-- Asks in a row: none, or in cells. -/
def rowL (w : World) (p : Option Addr) (xs : List Tr) : Prop := xs = [] ∨ ∃ g o, p = some ⟨g, o, none⟩ ∧ g < w.heap.size ∧ liesL w g o xs
theorem rowL.below {w w' : World} {p : Option Addr} {xs : List Tr} (h : rowL w p xs) (hb : Below w.heap.size w w') : rowL w' p xs := by
  refine h.imp id ?_
  rintro ⟨g, o, h1, h2, h3⟩
  exact ⟨g, o, h1, Nat.lt_of_lt_of_le h2 hb.size, liesL_below xs g o h2 h3 hb⟩
def SameOk (t : Tr) : Prop := ∀ (v v' : Value) (W : World), liesT W t v → liesT W t v' → Calls Tryd.prog 25 #[v, v'] W fun e W' => e = .returned (.bool true) ∧ Below W.heap.size W W'
theorem row_at {w : World} {p : Option Addr} {xs : List Tr} (h : rowL w p xs) {j : Nat} {k : Int} {a b : ByteArray} {n : Int} {ys : List Tr} {m : Nat} (hm : ys.length = m) (hj : xs[j]? = some (.mk k a b n ys)) : ∃ g o q c, p = some ⟨g, o, none⟩ ∧ g < w.heap.size ∧ cell5 w g (o + j * 5) (.int .i64 k) (.string a) (.string b) (.int .i64 n) (.slice q m c) ∧ liesT w (.mk k a b n ys) (.agg #[.int .i64 k, .string a, .string b, .int .i64 n, .slice q m c]) := by
  obtain ⟨g, o, rfl, hg, hl⟩ := h.resolve_left (fun e => by rw [e] at hj; simp at hj)
  obtain ⟨c0, c1, c2, c3, c4, hc, hx⟩ := liesL_at xs o j _ hl hj
  have hx0 := hx
  rw [liesT] at hx
  obtain ⟨q, c, e2, _, _⟩ := hx
  have e3 := Value.agg.inj e2
  simp only [Array.mk.injEq, List.cons.injEq, and_true] at e3
  obtain ⟨rfl, rfl, rfl, rfl, rfl⟩ := e3
  rw [hm] at hc hx0
  exact ⟨g, o, q, c, rfl, hg, hc, hx0⟩

set_option maxHeartbeats 4000000 in
set_option maxRecDepth 100000 in
theorem equalF_any (xs : List Tr) (IH : ∀ x ∈ xs, SameOk x) (l : Nat) (hl : xs.length = l) (hli : (l : Int) ≤ 9223372036854775807) (pp pp' : Option Addr) (cc cc' : Nat) (W : World) (h : rowL W pp xs) (h' : rowL W pp' xs) :
    Calls Tryd.prog 46 #[.slice pp l cc, .slice pp' l cc', .func (.func 25) #[] #[]] W fun e W' => e = .returned (.bool true) ∧ Below W.heap.size W W' := by
  have hH : Hid (rowL W pp xs) := h
  have hH' : Hid (rowL W pp' xs) := h'
  have hlH : Hid (xs.length = l) := hl
  have hIH : Hid (∀ x ∈ xs, SameOk x) := IH
  clear h h' hl IH
  go_enter Tryd.func46, Tryd.ntmps46
  go_wp2
  go_loopw [17] (fun iv wr => ∃ j : Nat, iv = .int .i64 j ∧ j ≤ l ∧ Hid (Below W.heap.size W wr)) (fun iv _ => l - (intOf iv).toNat)
  case atStart => exact ⟨0, rfl, Nat.zero_le _, Below.refl _ _⟩
  case round =>
    obtain ⟨j, rfl, hj, hbl⟩ := hrel
    by_cases hjl : j < l
    · obtain ⟨x, hx⟩ : ∃ x, xs[j]? = some x := ⟨xs[j]'(by rw [hlH.out]; exact hjl), List.getElem?_eq_getElem _⟩
      have hih := hIH.out x (List.mem_of_getElem? hx)
      obtain ⟨k, a, b, n, ys⟩ := x
      obtain ⟨m, hm⟩ : ∃ m, ys.length = m := ⟨_, rfl⟩
      obtain ⟨g, o, q, c, rfl, hg, hc, hl1⟩ := row_at hH.out hm hx
      obtain ⟨g', o', q', c', rfl, hg', hc', hl2⟩ := row_at hH'.out hm hx
      have u0 := (hbl.out.cell (p := ⟨g, o + j * 5, none⟩) hg).trans hc.1
      have u1 := (hbl.out.cell (p := ⟨g, o + j * 5 + 1, none⟩) hg).trans hc.2.1
      have u2 := (hbl.out.cell (p := ⟨g, o + j * 5 + 2, none⟩) hg).trans hc.2.2.1
      have u3 := (hbl.out.cell (p := ⟨g, o + j * 5 + 3, none⟩) hg).trans hc.2.2.2.1
      have u4 := (hbl.out.cell (p := ⟨g, o + j * 5 + 4, none⟩) hg).trans hc.2.2.2.2
      have hcH : Hid (cell5 W g' (o' + j * 5) (.int .i64 k) (.string a) (.string b) (.int .i64 n) (.slice q' m c')) := hc'
      have hcall : ∀ w1, Below W.heap.size W w1 → Calls Tryd.prog 25 #[.agg #[.int .i64 k, .string a, .string b, .int .i64 n, .slice q m c], .agg #[.int .i64 k, .string a, .string b, .int .i64 n, .slice q' m c']] w1 fun e W' => e = .returned (.bool true) ∧ Below w1.heap.size w1 W' := fun w1 hb => hih _ _ w1 (liesT_below _ _ hl1 hb) (liesT_below _ _ hl2 hb)
      clear hih hl1 hl2 hx hm hc hc'
      have hlt : (j : Int) < (l : Int) := by omega
      have hjH : Hid (j < l) := hjl
      have hliH : Hid ((l : Int) ≤ 9223372036854775807) := hli
      clear hj hjl
      go_wp2_with (first
        | (refine wpList_store_row rfl 24 _ _ rfl _ #[.int .i64 k, .string a, .string b, .int .i64 n, .slice q m c] rfl rfl _ _ (heap_alloc_new wr _) (ask_info _ rfl) rfl (ask_one _ _ _ _ _ _ _) ?_
           have e1 := setRow_heap (wr.alloc (.cells #[.int .i64 0, .string ⟨#[]⟩, .string ⟨#[]⟩, .int .i64 0, .slice none 0 0] 24)) wr.heap.size _ #[.int .i64 k, .string a, .string b, .int .i64 n, .slice q m c] _ _ (heap_alloc_new wr _)
           have hb1 : Below W.heap.size W ((wr.alloc (.cells #[.int .i64 0, .string ⟨#[]⟩, .string ⟨#[]⟩, .int .i64 0, .slice none 0 0] 24)).setRow wr.heap.size #[.int .i64 k, .string a, .string b, .int .i64 n, .slice q m c]) := below_row (hbl.out.alloc hbl.out.size _) hbl.out.size
           have s1 : ((wr.alloc (.cells #[.int .i64 0, .string ⟨#[]⟩, .string ⟨#[]⟩, .int .i64 0, .slice none 0 0] 24)).setRow wr.heap.size #[.int .i64 k, .string a, .string b, .int .i64 n, .slice q m c]).heap.size = wr.heap.size + 1 := by simp [World.setRow]
           generalize (wr.alloc (.cells #[.int .i64 0, .string ⟨#[]⟩, .string ⟨#[]⟩, .int .i64 0, .slice none 0 0] 24)).setRow wr.heap.size #[.int .i64 k, .string a, .string b, .int .i64 n, .slice q m c] = w1 at *
           have y0 := (hb1.cell (p := ⟨g', o' + j * 5, none⟩) hg').trans hcH.out.1
           have y1 := (hb1.cell (p := ⟨g', o' + j * 5 + 1, none⟩) hg').trans hcH.out.2.1
           have y2 := (hb1.cell (p := ⟨g', o' + j * 5 + 2, none⟩) hg').trans hcH.out.2.2.1
           have y3 := (hb1.cell (p := ⟨g', o' + j * 5 + 3, none⟩) hg').trans hcH.out.2.2.2.1
           have y4 := (hb1.cell (p := ⟨g', o' + j * 5 + 4, none⟩) hg').trans hcH.out.2.2.2.2
           have n2 : (w1.alloc (.cells #[.int .i64 0, .string ⟨#[]⟩, .string ⟨#[]⟩, .int .i64 0, .slice none 0 0] 24)).heap[wr.heap.size + 1]? = some (.cells #[.int .i64 0, .string ⟨#[]⟩, .string ⟨#[]⟩, .int .i64 0, .slice none 0 0] 24 (0, 0)) := by have h := heap_alloc_new w1 (.cells #[.int .i64 0, .string ⟨#[]⟩, .string ⟨#[]⟩, .int .i64 0, .slice none 0 0] 24); rw [s1] at h; exact h
           clear u0 u1 u2 u3 u4)
        | (refine wpList_store_row rfl 24 _ _ rfl _ #[.int .i64 k, .string a, .string b, .int .i64 n, .slice q' m c'] rfl rfl _ _ n2 (ask_info _ rfl) rfl (ask_one _ _ _ _ _ _ _) ?_
           have e2 := setRow_heap (w1.alloc (.cells #[.int .i64 0, .string ⟨#[]⟩, .string ⟨#[]⟩, .int .i64 0, .slice none 0 0] 24)) (wr.heap.size + 1) _ #[.int .i64 k, .string a, .string b, .int .i64 n, .slice q' m c'] _ _ n2
           have e3 := (setRow_other (w1.alloc (.cells #[.int .i64 0, .string ⟨#[]⟩, .string ⟨#[]⟩, .int .i64 0, .slice none 0 0] 24)) (wr.heap.size + 1) wr.heap.size #[.int .i64 k, .string a, .string b, .int .i64 n, .slice q' m c'] (by omega)).trans ((Below.heap_alloc w1 (.cells #[.int .i64 0, .string ⟨#[]⟩, .string ⟨#[]⟩, .int .i64 0, .slice none 0 0] 24) wr.heap.size (by rw [s1]; omega)).trans e1)
           have hb2 : Below W.heap.size W ((w1.alloc (.cells #[.int .i64 0, .string ⟨#[]⟩, .string ⟨#[]⟩, .int .i64 0, .slice none 0 0] 24)).setRow (wr.heap.size + 1) #[.int .i64 k, .string a, .string b, .int .i64 n, .slice q' m c']) := below_row (hb1.alloc hb1.size _) (by have := hbl.out.size; omega)
           generalize (w1.alloc (.cells #[.int .i64 0, .string ⟨#[]⟩, .string ⟨#[]⟩, .int .i64 0, .slice none 0 0] 24)).setRow (wr.heap.size + 1) #[.int .i64 k, .string a, .string b, .int .i64 n, .slice q' m c'] = w2 at *
           have hb2H : Hid (Below W.heap.size W w2) := hb2
           clear y0 y1 y2 y3 y4 e1 hb1 n2 s1)
        | (refine load_wanted rfl 24 _ rfl _ rfl _ _ _ _ (e3) Tryd.underlying24 rfl (ask_info _ rfl) ?_)
        | (refine load_wanted rfl 24 _ rfl _ rfl _ _ _ _ (e2) Tryd.underlying24 rfl (ask_info _ rfl) ?_)
        | (go_at_call 25; refine (hcall _ hb2).mono ?_; rintro e w5 ⟨rfl, hb5⟩; clear hcall hb2 e2 e3)
        | go_in)
      refine ⟨⟨j + 1, by first | rfl | simp, hjH.out, hb2H.out.trans (hb5.mono hb2H.out.size)⟩, ?_⟩
      have := hjH.out
      simp [intOf]
      omega
    · have hlt : ¬ (j : Int) < (l : Int) := by omega
      go_wp2
      go_ret
      exact ⟨rfl, hbl.out⟩

set_option maxHeartbeats 4000000 in
set_option maxRecDepth 100000 in
theorem same_one (k : Int) (a b : ByteArray) (n : Int) (xs : List Tr) (IH : ∀ x ∈ xs, SameOk x) : SameOk (.mk k a b n xs) := by
  intro v v' W hv hv'
  rw [liesT] at hv hv'
  obtain ⟨p, cap, rfl, hxl, hxs⟩ := hv
  obtain ⟨p', cap', rfl, _, hxs'⟩ := hv'
  obtain ⟨m, hm⟩ : ∃ m, xs.length = m := ⟨_, rfl⟩
  rw [hm] at hxl ⊢
  have hB : Below W.heap.size W ((W.alloc (.cells #[.int .i64 k, .string a, .string b, .int .i64 n, .slice p m cap] 24)).alloc (.cells #[.int .i64 k, .string a, .string b, .int .i64 n, .slice p' m cap'] 24)) := ((Below.refl _ _).alloc (Nat.le_refl _) _).alloc (by simp) _
  have hBH : Hid (Below W.heap.size W ((W.alloc (.cells #[.int .i64 k, .string a, .string b, .int .i64 n, .slice p m cap] 24)).alloc (.cells #[.int .i64 k, .string a, .string b, .int .i64 n, .slice p' m cap'] 24))) := hB
  have heq := equalF_any xs IH m hm hxl p p' cap cap' _ (rowL.below hxs hB) (rowL.below hxs' hB)
  clear hxs hxs' IH hm hB hxl
  go_enter Tryd.func25, Tryd.ntmps25
  go_wp2_with (first
    | (go_at_call 46; refine heq.mono ?_; rintro e w3 ⟨rfl, hb3⟩; clear heq)
    | go_in)
  go_ret
  exact ⟨rfl, hBH.out.trans (hb3.mono hBH.out.size)⟩

mutual
theorem same_in : ∀ t, SameOk t
  | .mk k a b n xs => same_one k a b n xs (same_each xs)
theorem same_each : ∀ xs : List Tr, ∀ x ∈ xs, SameOk x
  | [], x, hx => by cases hx
  | u :: r, x, hx => by
    rcases List.mem_cons.1 hx with h | h
    · rw [h]
      exact same_in u
    · exact same_each r x h
end

mutual
/-- ANot only of asks that have none within. -/
def plT : Tr → Prop
  | .mk k a b n xs => (k = 4 → ∃ k2 a2 b2 n2, xs = [.mk k2 a2 b2 n2 []]) ∧ plL xs
def plL : List Tr → Prop
  | [] => True
  | x :: r => plT x ∧ plL r
end
theorem plL_mem : ∀ {l : List Tr}, plL l → ∀ x ∈ l, plT x
  | [], _, x, hx => by cases hx
  | y :: r, h, x, hx => by
    rw [plL] at h
    rcases List.mem_cons.1 hx with e | e
    · rw [e]; exact h.1
    · exact plL_mem h.2 x e
def PlainOk (t : Tr) : Prop := plT t → ∀ (v : Value) (W : World), liesT W t v → Calls Tryd.prog 27 #[v] W fun e W' => e = .returned (.bool true) ∧ Below W.heap.size W W'

set_option maxHeartbeats 4000000 in
set_option maxRecDepth 100000 in
theorem plain1_any (k : Int) (a b : ByteArray) (n : Int) (xs : List Tr) (IH : PlainOk (.mk k a b n xs)) (hp : plT (.mk k a b n xs)) (p : Option Addr) (m cap : Nat) (W : World) (h : liesT W (.mk k a b n xs) (.agg #[.int .i64 k, .string a, .string b, .int .i64 n, .slice p m cap])) : Calls Tryd.prog 50 #[.agg #[.int .i64 k, .string a, .string b, .int .i64 n, .slice p m cap]] W fun e W' => e = .returned (.bool false) ∧ Below W.heap.size W W' := by
  have hB : Below W.heap.size W (W.alloc (.cells #[.int .i64 k, .string a, .string b, .int .i64 n, .slice p m cap] 24)) := (Below.refl _ _).alloc (Nat.le_refl _) _
  have hBH : Hid (Below W.heap.size W (W.alloc (.cells #[.int .i64 k, .string a, .string b, .int .i64 n, .slice p m cap] 24))) := hB
  have hc := IH hp _ _ (liesT_below _ _ h hB)
  have h1 := heap_alloc_new W (.cells #[.int .i64 k, .string a, .string b, .int .i64 n, .slice p m cap] 24)
  clear IH hp h hB
  go_enter Tryd.func50, Tryd.ntmps50
  go_wp2_with (first
    | (refine load_wanted rfl 24 _ rfl _ rfl _ _ _ _ (h1) Tryd.underlying24 rfl (ask_info _ rfl) ?_)
    | (go_at_call 27; refine hc.mono ?_; rintro e w3 ⟨rfl, hb3⟩; clear hc)
    | go_in)
  go_ret
  exact ⟨rfl, hBH.out.trans (hb3.mono hBH.out.size)⟩

set_option maxHeartbeats 4000000 in
set_option maxRecDepth 100000 in
theorem indexP_any (xs : List Tr) (IH : ∀ x ∈ xs, PlainOk x) (hpl : plL xs) (l : Nat) (hl : xs.length = l) (hli : (l : Int) ≤ 9223372036854775807) (pp : Option Addr) (cc : Nat) (W : World) (h : rowL W pp xs) :
    Calls Tryd.prog 71 #[.slice pp l cc, .func (.func 50) #[] #[]] W fun e W' => e = .returned (.int .i64 (-1)) ∧ Below W.heap.size W W' := by
  have hH : Hid (rowL W pp xs) := h
  have hlH : Hid (xs.length = l) := hl
  have hIH : Hid (∀ x ∈ xs, PlainOk x) := IH
  have hpH : Hid (plL xs) := hpl
  clear h hl IH hpl
  go_enter Tryd.func71, Tryd.ntmps71
  go_wp2
  go_loopw [8] (fun iv wr => ∃ j : Nat, iv = .int .i64 j ∧ j ≤ l ∧ Hid (Below W.heap.size W wr)) (fun iv _ => l - (intOf iv).toNat)
  case atStart => exact ⟨0, rfl, Nat.zero_le _, Below.refl _ _⟩
  case round =>
    obtain ⟨j, rfl, hj, hbl⟩ := hrel
    by_cases hjl : j < l
    · obtain ⟨x, hx⟩ : ∃ x, xs[j]? = some x := ⟨xs[j]'(by rw [hlH.out]; exact hjl), List.getElem?_eq_getElem _⟩
      have hih := hIH.out x (List.mem_of_getElem? hx)
      have hpx := plL_mem hpH.out x (List.mem_of_getElem? hx)
      obtain ⟨k, a, b, n, ys⟩ := x
      obtain ⟨m, hm⟩ : ∃ m, ys.length = m := ⟨_, rfl⟩
      obtain ⟨g, o, q, c, rfl, hg, hc, hl1⟩ := row_at hH.out hm hx
      have u0 := (hbl.out.cell (p := ⟨g, o + j * 5, none⟩) hg).trans hc.1
      have u1 := (hbl.out.cell (p := ⟨g, o + j * 5 + 1, none⟩) hg).trans hc.2.1
      have u2 := (hbl.out.cell (p := ⟨g, o + j * 5 + 2, none⟩) hg).trans hc.2.2.1
      have u3 := (hbl.out.cell (p := ⟨g, o + j * 5 + 3, none⟩) hg).trans hc.2.2.2.1
      have u4 := (hbl.out.cell (p := ⟨g, o + j * 5 + 4, none⟩) hg).trans hc.2.2.2.2
      have hcall := plain1_any k a b n ys hih hpx q m c wr (liesT_below _ _ hl1 hbl.out)
      clear hih hpx hl1 hx hm hc
      have hlt : (j : Int) < (l : Int) := by omega
      have hjH : Hid (j < l) := hjl
      clear hj hjl
      go_wp2_with (first
        | (go_at_call 50; refine hcall.mono ?_; rintro e w5 ⟨rfl, hb5⟩; clear hcall)
        | go_in)
      refine ⟨⟨j + 1, by first | rfl | simp, hjH.out, hbl.out.trans (hb5.mono hbl.out.size)⟩, ?_⟩
      have := hjH.out
      simp [intOf]
      omega
    · have hlt : ¬ (j : Int) < (l : Int) := by omega
      go_wp2
      go_ret
      exact ⟨rfl, hbl.out⟩

theorem containsP_any (xs : List Tr) (IH : ∀ x ∈ xs, PlainOk x) (hpl : plL xs) (l : Nat) (hl : xs.length = l) (hli : (l : Int) ≤ 9223372036854775807) (pp : Option Addr) (cc : Nat) (W : World) (h : rowL W pp xs) :
    Calls Tryd.prog 49 #[.slice pp l cc, .func (.func 50) #[] #[]] W fun e W' => e = .returned (.bool false) ∧ Below W.heap.size W W' := by
  have hi := indexP_any xs IH hpl l hl hli pp cc W h
  clear IH hpl hl hli h
  go_enter Tryd.func49, Tryd.ntmps49
  go_wp2_with (first
    | (go_at_call 71; refine hi.mono ?_; rintro e w3 ⟨rfl, hb3⟩; clear hi)
    | go_in)
  go_ret
  exact ⟨rfl, hb3⟩

set_option maxHeartbeats 4000000 in
set_option maxRecDepth 100000 in
theorem plain_one (k : Int) (a b : ByteArray) (n : Int) (xs : List Tr) (IH : ∀ x ∈ xs, PlainOk x) : PlainOk (.mk k a b n xs) := by
  intro hp v W hv
  rw [plT] at hp
  obtain ⟨hp4, hpl⟩ := hp
  rw [liesT] at hv
  obtain ⟨p, cap, rfl, hxl, hxs⟩ := hv
  by_cases h4 : k = 4
  · obtain ⟨k2, a2, b2, n2, rfl⟩ := hp4 h4
    subst h4
    obtain ⟨g, o, rfl, hg, hll⟩ := hxs.resolve_left (by simp)
    obtain ⟨c0, c1, c2, c3, c4, hc, hx⟩ := liesL_at _ o 0 _ hll rfl
    rw [liesT] at hx
    obtain ⟨q, c, e2, _, _⟩ := hx
    have e3 := Value.agg.inj e2
    simp only [Array.mk.injEq, List.cons.injEq, and_true] at e3
    obtain ⟨rfl, rfl, rfl, rfl, rfl⟩ := e3
    have hB : Below W.heap.size W (W.alloc (.cells #[.int .i64 4, .string a, .string b, .int .i64 n, .slice (some ⟨g, o, none⟩) 1 cap] 24)) := (Below.refl _ _).alloc (Nat.le_refl _) _
    have hBH : Hid (Below W.heap.size W (W.alloc (.cells #[.int .i64 4, .string a, .string b, .int .i64 n, .slice (some ⟨g, o, none⟩) 1 cap] 24))) := hB
    have hct := containsP_any _ IH hpl 1 rfl (by omega) (some ⟨g, o, none⟩) cap _ (rowL.below (Or.inr ⟨g, o, rfl, hg, hll⟩) hB)
    have q4 := (hB.cell (p := ⟨g, o + 4, none⟩) hg).trans (show W.cell? ⟨g, o + 4, none⟩ = some (.slice q 0 c) from by simpa using hc.2.2.2.2)
    clear hxl hxs hp4 hpl IH hll hc e2 hB
    go_enter Tryd.func27, Tryd.ntmps27
    go_wp2_with (first
      | (go_at_call 49; refine hct.mono ?_; rintro e w3 ⟨rfl, hb3⟩; clear hct)
      | go_in)
    go_ret
    exact ⟨rfl, hBH.out.trans (hb3.mono hBH.out.size)⟩
  · obtain ⟨m, hm⟩ : ∃ m, xs.length = m := ⟨_, rfl⟩
    rw [hm] at hxl ⊢
    have m4 : (k != 4) = true := by simpa using h4
    have hB : Below W.heap.size W (W.alloc (.cells #[.int .i64 k, .string a, .string b, .int .i64 n, .slice p m cap] 24)) := (Below.refl _ _).alloc (Nat.le_refl _) _
    have hBH : Hid (Below W.heap.size W (W.alloc (.cells #[.int .i64 k, .string a, .string b, .int .i64 n, .slice p m cap] 24))) := hB
    have hct := containsP_any _ IH hpl m hm hxl p cap _ (rowL.below hxs hB)
    clear hxl hxs hp4 hpl IH hB hm h4
    go_enter Tryd.func27, Tryd.ntmps27
    go_wp2_with (first
      | (go_at_call 49; refine hct.mono ?_; rintro e w3 ⟨rfl, hb3⟩; clear hct)
      | go_in)
    go_ret
    exact ⟨rfl, hBH.out.trans (hb3.mono hBH.out.size)⟩
mutual
theorem plain_in : ∀ t, PlainOk t
  | .mk k a b n xs => plain_one k a b n xs (plain_each xs)
theorem plain_each : ∀ xs : List Tr, ∀ x ∈ xs, PlainOk x
  | [], x, hx => by cases hx
  | u :: r, x, hx => by
    rcases List.mem_cons.1 hx with h | h
    · rw [h]
      exact plain_in u
    · exact plain_each r x h
end
end Go.Proofs.YtelepamnlpebgaaDoor
