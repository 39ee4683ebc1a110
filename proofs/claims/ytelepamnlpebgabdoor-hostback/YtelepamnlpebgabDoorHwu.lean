/- host.withUsed, walked. -/
import Derived.Test.YtelepamnlpebgabDoorHcp
import Derived.Deep.MidRow
namespace Go.Proofs.YtelepamnlpebgabDoor
open Go.RowKit Go.Shelf Go.Deep Akm Ndm
set_option linter.unusedSectionVars false
set_option linter.unusedVariables false

theorem setCells_size (b : Nat) : ∀ (vs : List Value) (o : Nat) (w : World), (w.setCells b o vs).heap.size = w.heap.size
  | [], _, _ => rfl
  | v :: r, o, w => by
    rw [World.setCells, setCells_size b r]
    simp [World.setCell]
theorem setCells_below {B : Nat} (b : Nat) (hB : B ≤ b) : ∀ (vs : List Value) (o : Nat) (w0 w : World), Below B w0 w → Below B w0 (w.setCells b o vs)
  | [], _, _, _, h => h
  | v :: r, o, w0, w, h => by
    rw [World.setCells]
    exact setCells_below b hB r (o + 1) w0 _ (h.setCell hB v)
theorem setCells_other (b : Nat) : ∀ (vs : List Value) (o : Nat) (w : World) (q : Nat), q ≠ b → (w.setCells b o vs).heap[q]? = w.heap[q]?
  | [], _, _, _, _ => rfl
  | v :: r, o, w, q, h => by
    rw [World.setCells, setCells_other b r (o + 1) _ q h]
    exact Below.heap_setCell w (⟨b, o, none⟩ : Addr) v q h
/-- The cells of a host. -/
def hcL (h : Ht) (p : Option Addr) (c : Nat) : List Value := [.string h.nm, .slice p h.L.length c, .int .i64 h.hs.x, .int .i64 h.hs.y, .int .i64 h.hs.z, .int .i64 h.us.x, .int .i64 h.us.y, .int .i64 h.us.z]
/-- Hosts in a block, their labels in later ones. -/
def Cph (w : World) (g : Nat) (l : List Ht) : Prop := ∀ (i : Nat) (h : Ht), l[i]? = some h → ∃ p c, w.rangeAt g (i * 8) (hcL h p c) ∧ LbF (g + 1) w p h.L ∧ h.L.length ≤ c
theorem rangeAt_below {w w' : World} {b o : Nat} {cs : List Value} (h : w.rangeAt b o cs) {B : Nat} (hb : Below B w w') (hB : b < B) : w'.rangeAt b o cs := fun j v hj => (hb.cell (p := ⟨b, o + j, none⟩) hB).trans (h j v hj)
theorem LbF.below {B : Nat} {w w' : World} {p : Option Addr} {L : List (ByteArray × ByteArray)} (h : LbF B w p L) (hb : Below w.heap.size w w') : LbF B w' p L := by
  refine h.imp id ?_
  rintro ⟨b, h1, h2, h3, h4⟩
  exact ⟨b, h1, h2, Nat.lt_of_lt_of_le h3 hb.size, fun j x hx => ⟨(hb.cell (p := ⟨b, j * 2, none⟩) h3).trans (h4 j x hx).1, (hb.cell (p := ⟨b, j * 2 + 1, none⟩) h3).trans (h4 j x hx).2⟩⟩
theorem LbF.cells {B : Nat} {w : World} {p : Option Addr} {L : List (ByteArray × ByteArray)} (h : LbF B w p L) {g : Nat} (hg : g < B) (o : Nat) (vs : List Value) : LbF B (w.setCells g o vs) p L := by
  refine h.imp id ?_
  rintro ⟨b, h1, h2, h3, h4⟩
  refine ⟨b, h1, h2, by rw [setCells_size]; exact h3, fun j x hx => ?_⟩
  have e := setCells_other g vs o w b (by omega)
  obtain ⟨a0, a1⟩ := h4 j x hx
  unfold World.cell? at a0 a1 ⊢
  rw [e]
  exact ⟨a0, a1⟩
theorem Cph.below {w w' : World} {g : Nat} {l : List Ht} (h : Cph w g l) (hb : Below w.heap.size w w') (hg : g < w.heap.size) : Cph w' g l := by
  intro i x hx
  obtain ⟨p, c, h1, h2, h3⟩ := h i x hx
  exact ⟨p, c, rangeAt_below h1 hb hg, h2.below hb, h3⟩
theorem Cph.snoc {w : World} {g : Nat} {l : List Ht} {j : Nat} {x : Ht} (hx : l[j]? = some x) (h : Cph w g (l.take j)) {p : Option Addr} {c : Nat} (ht : w.there g (j * 8) 8) (hL : LbF (g + 1) w p x.L) (hc : x.L.length ≤ c) : Cph (w.setCells g (j * 8) (hcL x p c)) g (l.take (j + 1)) := by
  have hj := (List.getElem?_eq_some_iff.1 hx).1
  intro i y hy
  rw [List.getElem?_take] at hy
  split at hy
  · rename_i hi
    by_cases e : i = j
    · subst e
      rw [hx] at hy
      obtain rfl := Option.some.inj hy
      exact ⟨p, c, World.rangeAt_setCells_same w g (i * 8) (hcL x p c) ht, hL.cells (by omega) _ _, hc⟩
    · obtain ⟨p', c', h1, h2, h3⟩ := h i y (by rw [List.getElem?_take, if_pos (by omega)]; exact hy)
      refine ⟨p', c', World.rangeAt_setCells_apart h1 g (j * 8) _ (Or.inr (Or.inl ?_)), h2.cells (by omega) _ _, h3⟩
      show i * 8 + 8 ≤ j * 8
      omega
  · cases hy
/-- Hosts where one of them has another Used. -/
def updU (l : List Ht) (i : Nat) (u : N3) : List Ht := match l[i]? with
  | some h => l.set i { h with us := u }
  | none => l
theorem rangeAt_split {w : World} {b o : Nat} {a c : List Value} (h : w.rangeAt b o (a ++ c)) : w.rangeAt b o a ∧ w.rangeAt b (o + a.length) c := by
  constructor
  · intro j v hj
    refine h j v ?_
    rw [List.getElem?_append_left (List.getElem?_eq_some_iff.1 hj).1]
    exact hj
  · intro j v hj
    have := h (a.length + j) v (by rw [List.getElem?_append_right (by omega), Nat.add_sub_cancel_left]; exact hj)
    rwa [← Nat.add_assoc] at this
theorem rangeAt_join {w : World} {b o : Nat} {a c : List Value} (h1 : w.rangeAt b o a) (h2 : w.rangeAt b (o + a.length) c) : w.rangeAt b o (a ++ c) := by
  intro j v hj
  by_cases hja : j < a.length
  · rw [List.getElem?_append_left hja] at hj
    exact h1 j v hj
  · rw [List.getElem?_append_right (by omega)] at hj
    have := h2 (j - a.length) v hj
    rwa [Nat.add_assoc, show a.length + (j - a.length) = j by omega] at this
theorem Cph.upd {w : World} {g : Nat} {l : List Ht} (h : Cph w g l) {i : Nat} {x : Ht} (hx : l[i]? = some x) (u : N3) (ht : w.there g (i * 8 + 5) 3) : Cph (w.setCells g (i * 8 + 5) [.int .i64 u.x, .int .i64 u.y, .int .i64 u.z]) g (updU l i u) := by
  have hi := (List.getElem?_eq_some_iff.1 hx).1
  intro k y hy
  unfold updU at hy
  rw [hx] at hy
  simp only at hy
  rw [List.getElem?_set] at hy
  by_cases e : i = k
  · subst e
    rw [if_pos rfl, if_pos hi] at hy
    obtain rfl := Option.some.inj hy
    obtain ⟨p, c, h1, h2, h3⟩ := h i x hx
    refine ⟨p, c, ?_, h2.cells (by omega) _ _, h3⟩
    have hs := rangeAt_split (a := [.string x.nm, .slice p x.L.length c, .int .i64 x.hs.x, .int .i64 x.hs.y, .int .i64 x.hs.z]) (c := [.int .i64 x.us.x, .int .i64 x.us.y, .int .i64 x.us.z]) h1
    exact rangeAt_join (a := [.string x.nm, .slice p x.L.length c, .int .i64 x.hs.x, .int .i64 x.hs.y, .int .i64 x.hs.z]) (World.rangeAt_setCells_apart hs.1 g (i * 8 + 5) _ (Or.inr (Or.inl (by show i * 8 + 5 ≤ i * 8 + 5; omega)))) (World.rangeAt_setCells_same w g (i * 8 + 5) [.int .i64 u.x, .int .i64 u.y, .int .i64 u.z] ht)
  · rw [if_neg e] at hy
    obtain ⟨p, c, h1, h2, h3⟩ := h k y hy
    refine ⟨p, c, World.rangeAt_setCells_apart h1 g (i * 8 + 5) _ (Or.inr ?_), h2.cells (by omega) _ _, h3⟩
    show k * 8 + 8 ≤ i * 8 + 5 ∨ i * 8 + 5 + 3 ≤ k * 8
    omega
theorem Cph.hsts {w : World} {g : Nat} {l : List Ht} (h : Cph w g l) (hg : g < w.heap.size) (h8 : ∀ x ∈ l, x.L.length ≤ 8) : Hsts w (some ⟨g, 0, none⟩) l := by
  refine Or.inr ⟨g, 0, rfl, hg, fun j x hx => ?_⟩
  obtain ⟨p, c, h1, h2, h3⟩ := h j x hx
  have h88 := h8 x (List.mem_of_getElem? hx)
  refine ⟨p, c, ⟨⟨?_, ?_⟩, ⟨?_, ?_, ?_⟩, ⟨?_, ?_, ?_⟩⟩, h2.lbs, by omega, h3⟩
  · simpa using h1 0 _ rfl
  · simpa using h1 1 _ rfl
  · simpa using h1 2 _ rfl
  · simpa using h1 3 _ rfl
  · simpa using h1 4 _ rfl
  · simpa using h1 5 _ rfl
  · simpa using h1 6 _ rfl
  · simpa using h1 7 _ rfl
theorem info_host : (Tryd.prog.info? 30).map (fun i => (i.zero, i.size, i.bytes)) = some (some (.agg #[.string ByteArray.empty, .slice none 0 0, .int .i64 0, .int .i64 0, .int .i64 0, .int .i64 0, .int .i64 0, .int .i64 0]), 8, 88) := by kernel_rfl
/-- What host.Check lets pass is short. -/
theorem clG_ok : ∀ (l pre : List (ByteArray × ByteArray)), clG pre l = 0 → ∀ x ∈ l, x.1.size ≤ 20 ∧ x.2.size ≤ 20
  | [], _, _, x, hx => by cases hx
  | y :: r, pre, h, x, hx => by
    rw [clG] at h
    by_cases h1 : (!lbB y.1.data.toList || !lbB y.2.data.toList) = true
    · rw [if_pos h1] at h; cases h
    · rw [if_neg h1] at h
      by_cases h2 : (pre.any fun z => kqB y.1 z.1) = true
      · rw [if_pos h2] at h; cases h
      · rw [if_neg h2] at h
        rcases List.mem_cons.1 hx with e | e
        · rw [e]
          simp only [Bool.or_eq_true, Bool.not_eq_true', not_or, Bool.not_eq_false] at h1
          exact ⟨lb_size h1.1, lb_size h1.2⟩
        · exact clG_ok r _ h x e
theorem hc_short {l : List Ht} (h0 : hcE l = 0) {h : Ht} (hm : h ∈ l) : h.nm.size ≤ 20 ∧ h.L.length ≤ 8 ∧ ∀ x ∈ h.L, x.1.size ≤ 20 ∧ x.2.size ≤ 20 := by
  unfold hcE at h0
  by_cases h3 : 30 < l.length
  · rw [if_pos h3] at h0; cases h0
  · rw [if_neg h3] at h0
    have e := hcG_mem l [] h0 h hm
    unfold hoE at e
    by_cases h1 : lbB h.nm.data.toList = false
    · rw [if_pos h1] at e; cases e
    · rw [if_neg h1, if_neg (by simp)] at e
      by_cases h2 : lblE h.L = 0
      · unfold lblE at h2
        by_cases h8 : 8 < h.L.length
        · rw [if_pos h8] at h2; cases h2
        · rw [if_neg h8] at h2
          exact ⟨lb_size (by simpa using h1), by omega, clG_ok _ _ h2⟩
      · rw [if_pos h2] at e
        exact absurd e h2
theorem hc_len {l : List Ht} (h0 : hcE l = 0) : l.length ≤ 30 := by
  unfold hcE at h0
  by_cases h3 : 30 < l.length
  · rw [if_pos h3] at h0; cases h0
  · omega

theorem store_host {ops : Array Oper} {rest : List Oper} {op : Oper} {a : Act} {w : World} {Q : Exit → Act → World → Prop} (hgd : op.guard = none) (x y : Operand) (ho : op.op = .store 30 x y) (b o : Nat) (nm : ByteArray) (pl : Option Addr) (ln cl : Nat) (hs us : N3) (hx : a.eval x = .pointer (some ⟨b, o, none⟩)) (hy : a.eval y = .agg #[.string nm, .slice pl ln cl, .int .i64 hs.x, .int .i64 hs.y, .int .i64 hs.z, .int .i64 us.x, .int .i64 us.y, .int .i64 us.z]) (ht : w.there b o 8)
    (h : wpList Tryd.prog ops Q rest (a.put op.dst undef) (w.setCells b o [.string nm, .slice pl ln cl, .int .i64 hs.x, .int .i64 hs.y, .int .i64 hs.z, .int .i64 us.x, .int .i64 us.y, .int .i64 us.z])) : wpList Tryd.prog ops Q (op :: rest) a w :=
  wpList_store_mid hgd 30 x y ho b o #[.string nm, .slice pl ln cl, .int .i64 hs.x, .int .i64 hs.y, .int .i64 hs.z, .int .i64 us.x, .int .i64 us.y, .int .i64 us.z] hx hy ht (host_info _ rfl) (host_one _ _ _ _ _ _) h
theorem store_need {ops : Array Oper} {rest : List Oper} {op : Oper} {a : Act} {w : World} {Q : Exit → Act → World → Prop} (hgd : op.guard = none) (x y : Operand) (ho : op.op = .store 27 x y) (b o : Nat) (u : N3) (hx : a.eval x = .pointer (some ⟨b, o, none⟩)) (hy : a.eval y = .agg #[.int .i64 u.x, .int .i64 u.y, .int .i64 u.z]) (ht : w.there b o 3)
    (h : wpList Tryd.prog ops Q rest (a.put op.dst undef) (w.setCells b o [.int .i64 u.x, .int .i64 u.y, .int .i64 u.z])) : wpList Tryd.prog ops Q (op :: rest) a w :=
  wpList_store_mid hgd 27 x y ho b o #[.int .i64 u.x, .int .i64 u.y, .int .i64 u.z] hx hy ht (need_info _ rfl) (need_one _ _ _) h
theorem there_sub {w : World} {b n o k : Nat} (h : w.there b 0 n) (hk : o + k ≤ n) : w.there b o k := fun j hj => by
  have := h (o + j) (by omega)
  rwa [Nat.zero_add] at this
theorem there_below {w w' : World} {b n B : Nat} (h : w.there b 0 n) (hb : Below B w w') (hB : b < B) : w'.there b 0 n := fun j hj => by
  obtain ⟨h1, h2⟩ := h j hj
  have e := hb.block b hB
  refine ⟨?_, ?_⟩
  · rw [hb.cell (p := ⟨b, 0 + j, none⟩) hB]; exact h1
  · unfold World.frozen? at h2 ⊢
    simp only at h2 ⊢
    rw [e]
    exact h2
theorem updU_8 {l : List Ht} {i : Nat} {u : N3} (h : ∀ x ∈ l, x.L.length ≤ 8) : ∀ x ∈ updU l i u, x.L.length ≤ 8 := by
  intro x hx
  unfold updU at hx
  cases e : l[i]? with
  | none => rw [e] at hx; exact h x hx
  | some y =>
    rw [e] at hx
    rcases List.mem_or_eq_of_mem_set hx with hx | hx
    · exact h x hx
    · rw [hx]
      exact h y (List.mem_of_getElem? e)

set_option maxHeartbeats 2000000 in
set_option maxRecDepth 100000 in
theorem withUsed_any (l : List Ht) (q : Option Addr) (nl c : Nat) (hnl : l.length = nl) (h0 : hcE l = 0) (i : Nat) (hi : i < nl) (u : N3) (w : World) (hl : Hsts w q l) :
    Calls Tryd.prog 38 #[.slice q nl c, .int .i64 (i : Int), .agg #[.int .i64 u.x, .int .i64 u.y, .int .i64 u.z]] w fun e w' => (∃ g, e = .returned (.slice (some ⟨g, 0, none⟩) nl nl) ∧ Hsts w' (some ⟨g, 0, none⟩) (updU l i u)) ∧ Below w.heap.size w w' := by
  have hl30 := hc_len h0
  have hshH : Hid (∀ x ∈ l, x.nm.size ≤ 20 ∧ x.L.length ≤ 8 ∧ ∀ y ∈ x.L, y.1.size ≤ 20 ∧ y.2.size ≤ 20) := fun x hx => hc_short h0 hx
  have hlH : Hid (Hsts w q l) := hl
  have hnH : Hid (l.length = nl) := hnl
  have hn30 : (nl : Int) ≤ 30 := by omega
  have hn30H : Hid (nl ≤ 30) := by show nl ≤ 30; omega
  have hii : (i : Int) < (nl : Int) := by omega
  have hi0 : ¬ (i : Int) < 0 := by omega
  have hiH : Hid (i < nl) := hi
  have hB1 : Hid (Below w.heap.size w (w.alloc (.cells #[.int .i64 u.x, .int .i64 u.y, .int .i64 u.z] 27))) := (Below.refl _ _).alloc (Nat.le_refl _) _
  have hs1 : Hid ((w.alloc (.cells #[.int .i64 u.x, .int .i64 u.y, .int .i64 u.z] 27)).heap.size = w.heap.size + 1) := by show _ = _; simp
  have u0 := heap_alloc_new w (.cells #[.int .i64 u.x, .int .i64 u.y, .int .i64 u.z] 27)
  clear hl hnl h0 hl30 hi
  go_enter Tryd.func38, Tryd.ntmps38
  go_wp2_with (first
    | (at_make; obtain ⟨ih, hi9, hz0, hz1, hz2⟩ := info_parts info_host; refine wpList_make_full _ rfl _ _ 22 rfl (w.heap.size + 1) 30 ih (.agg #[.string ByteArray.empty, .slice none 0 0, .int .i64 0, .int .i64 0, .int .i64 0, .int .i64 0, .int .i64 0, .int .i64 0]) 8 Tryd.underlying22 hi9 hz0 hz1 _ _ _ _ nl rfl rfl rfl rfl (by rw [hz2]; have := hn30H.out; omega) (by unfold maxLen; have := hn30H.out; omega) (by rw [hs1.out]; omega) ?_; intro w3 hown3 hgrow3; clear hi9 hz0 hz1 hz2)
    | go_in)
  rw [hs1.out] at hown3
  have ht3 : w3.there (w.heap.size + 1) 0 (nl * 8) := fun j hj => by
    rw [Nat.zero_add]
    refine ⟨?_, hown3.frozenAt j⟩
    rw [hown3.cellAt j hj, List.getElem?_eq_getElem (by have := hown3.1; omega)]
    rfl
  have hg3 : w.heap.size + 1 < w3.heap.size := (hown3.lt _ rfl).2
  have hB3 : Below w.heap.size w w3 := hB1.out.trans ⟨hgrow3.os, hgrow3.tape, hgrow3.output, hgrow3.size, fun k hk => hgrow3.block k (by rw [hs1.out]; omega) (by simp)⟩
  have u3 : w3.heap[w.heap.size]? = some (.cells #[.int .i64 u.x, .int .i64 u.y, .int .i64 u.z] 27 (0, 0)) := (hgrow3.block w.heap.size (by rw [hs1.out]; omega) (by simp)).trans u0
  have ht3H : Hid (w3.there (w.heap.size + 1) 0 (nl * 8)) := ht3
  have hg3H : Hid (w.heap.size + 1 < w3.heap.size) := hg3
  have hB3H : Hid (Below w.heap.size w w3) := hB3
  have u3H : Hid (w3.heap[w.heap.size]? = some (.cells #[.int .i64 u.x, .int .i64 u.y, .int .i64 u.z] 27 (0, 0))) := u3
  clear hown3 hgrow3 ht3 hg3 hB3 u3 u0
  generalize hgg : w.heap.size + 1 = gg at *
  have hggH : Hid (w.heap.size + 1 = gg) := hgg
  clear hgg
  go_loopw [15] (fun iv wr => ∃ j : Nat, iv = .int .i64 j ∧ j ≤ nl ∧ Hid (Cph wr gg (l.take j)) ∧ Hid (wr.there gg 0 (nl * 8)) ∧ Hid (Below gg w3 wr)) (fun iv _ => nl - (intOf iv).toNat)
  case atStart => exact ⟨0, rfl, Nat.zero_le _, fun i h hx => by simp at hx, ht3H.out, Below.refl _ _⟩
  case round =>
    obtain ⟨j, rfl, hj, hC, hT, hbl⟩ := hrel
    by_cases hjl : j < nl
    · obtain ⟨x, hx⟩ : ∃ x, l[j]? = some x := ⟨l[j]'(by rw [hnH.out]; exact hjl), List.getElem?_eq_getElem _⟩
      obtain ⟨g, o, pl, cl, rfl, hg, hx8, hxb, hxm⟩ := host_at hlH.out hx
      obtain ⟨sn, sl, sL⟩ := hshH.out x (List.mem_of_getElem? hx)
      have hbw : Below w.heap.size w wr := hB3H.out.trans (hbl.out.mono (by have := hggH.out; omega))
      obtain ⟨⟨q0, q1⟩, ⟨q2, q3, q4⟩, ⟨q5, q6, q7⟩⟩ := hx8.below hbw hg
      have hsn : Hid (∀ (w9 : World) p c, w9.there gg (j * 8) 8 → LbF (gg + 1) w9 p x.L → x.L.length ≤ c → Cph w9 gg (l.take j) → Cph (w9.setCells gg (j * 8) (hcL x p c)) gg (l.take (j + 1))) := fun w9 p c h1 h2 h3 h4 => Cph.snoc hx h4 h1 h2 h3
      obtain ⟨nm, L, hs, us⟩ := x
      obtain ⟨ln, hln⟩ : ∃ m, L.length = m := ⟨_, rfl⟩
      have hcp := fun w1 (h1 : Below w.heap.size w w1) => copied_any nm pl L ln cl hln hs us sn (by simp only at sl; omega) sL w1 (hxb.below h1)
      simp only at q0 q1 q2 q3 q4 q5 q6 q7
      rw [hln] at q1
      have hlnH : Hid (L.length = ln) := hln
      have hjH : Hid (j < nl) := hjl
      have hlt : (j : Int) < (nl : Int) := by omega
      have hj0 : ¬ (j : Int) < 0 := by omega
      have hgr : Hid (gg < wr.heap.size) := Nat.lt_of_lt_of_le hg3H.out hbl.out.size
      have g0 := heap_alloc_new wr (.cells #[.string nm, .slice pl ln cl, .int .i64 hs.x, .int .i64 hs.y, .int .i64 hs.z, .int .i64 us.x, .int .i64 us.y, .int .i64 us.z] 30)
      have hba : Below w.heap.size w (wr.alloc (.cells #[.string nm, .slice pl ln cl, .int .i64 hs.x, .int .i64 hs.y, .int .i64 hs.z, .int .i64 us.x, .int .i64 us.y, .int .i64 us.z] 30)) := hbw.alloc hbw.size _
      have hsz4 : Hid ((wr.alloc (.cells #[.string nm, .slice pl ln cl, .int .i64 hs.x, .int .i64 hs.y, .int .i64 hs.z, .int .i64 us.x, .int .i64 us.y, .int .i64 us.z] 30)).heap.size = wr.heap.size + 1) := by show _ = _; simp
      have hcp4 := hcp _ hba
      have hb4 : Hid (Below wr.heap.size wr (wr.alloc (.cells #[.string nm, .slice pl ln cl, .int .i64 hs.x, .int .i64 hs.y, .int .i64 hs.z, .int .i64 us.x, .int .i64 us.y, .int .i64 us.z] 30))) := (Below.refl _ _).alloc (Nat.le_refl _) _
      clear hx hx8 hxb hxm sn sl sL hbw hcp hln hj hjl hba
      go_wp2_with (first
        | (refine load_wanted rfl 30 _ rfl _ rfl _ _ _ _ (g0) Tryd.underlying30 rfl (host_info _ rfl) ?_)
        | (go_at_call 63; refine hcp4.mono ?_; rintro e w5 ⟨⟨p5, c5, rfl, hF5, hc5⟩, hb5⟩; clear hcp4 g0; have hb5H : Hid (Below wr.heap.size wr w5) := hb4.out.trans (hb5.mono (by rw [hsz4.out]; omega)); have hF5H : Hid (LbF (gg + 1) w5 p5 L) := hF5.le (by have h7 := hsz4.out; have h8 := hgr.out; omega); have hc5H : Hid (ln ≤ c5) := hc5; have hT5 : w5.there gg (j * 8) 8 := there_sub (there_below hT.out hb5H.out hgr.out) (by have := hjH.out; omega); have hTH5 : Hid (w5.there gg 0 (nl * 8)) := there_below hT.out hb5H.out hgr.out; have hC5 : Hid (Cph w5 gg (l.take j)) := hC.out.below hb5H.out hgr.out; clear hF5 hc5 hb5)
        | (have hT6 := hT5; refine store_host rfl _ _ rfl gg (j * 8) nm p5 ln c5 hs us rfl rfl ?ht ?_; case ht => exact hT6)
        | go_in)
      have hCn : Hid (Cph (w5.setCells gg (j * 8) [.string nm, .slice p5 ln c5, .int .i64 hs.x, .int .i64 hs.y, .int .i64 hs.z, .int .i64 us.x, .int .i64 us.y, .int .i64 us.z]) gg (l.take (j + 1))) := by
        have e := hsn.out w5 p5 c5 hT5 hF5H.out (by rw [hlnH.out]; exact hc5H.out) hC5.out
        unfold hcL at e
        simp only at e
        rw [hlnH.out] at e
        exact e
      refine ⟨⟨j + 1, by first | rfl | simp, hjH.out, hCn, World.there_setCells hTH5.out gg (j * 8) _, setCells_below gg (Nat.le_refl _) _ _ _ _ (hbl.out.trans (hb5H.out.mono (Nat.le_of_lt hgr.out)))⟩, ?_⟩
      have := hjH.out
      simp [intOf]
      omega
    · have hlt : ¬ (j : Int) < (nl : Int) := by omega
      obtain rfl : j = nl := by omega
      have hCf := hC.out
      rw [List.take_of_length_le (by rw [hnH.out]; exact Nat.le_refl _)] at hCf
      have hCfH : Hid (Cph wr gg l) := hCf
      have uf := (hbl.out.block w.heap.size (by have := hggH.out; omega)).trans u3H.out
      have hTi : wr.there gg (i * 8 + 5) 3 := there_sub hT.out (by have := hiH.out; omega)
      have hiH2 : Hid (i < j) := hiH.out
      clear hCf hC
      go_wp2_with (first
        | (refine load_wanted rfl 27 _ rfl _ rfl _ _ _ _ (uf) Tryd.underlying27 rfl (need_info _ rfl) ?_)
        | (have hT6 := hTi; refine store_need rfl _ _ rfl gg (i * 8 + 5) u rfl rfl ?ht ?_; case ht => exact hT6)
        | go_in)
      go_ret
      obtain ⟨xi, hxi⟩ : ∃ x, l[i]? = some x := ⟨l[i]'(by have := hiH2.out; have := hnH.out; omega), List.getElem?_eq_getElem _⟩
      refine ⟨⟨gg, rfl, (hCfH.out.upd hxi u hTi).hsts (by rw [setCells_size]; exact Nat.lt_of_lt_of_le hg3H.out hbl.out.size) (updU_8 fun x hx => (hshH.out x hx).2.1)⟩, setCells_below gg (by have := hggH.out; omega) _ _ _ _ (hB3H.out.trans (hbl.out.mono (by have := hggH.out; omega)))⟩
end Go.Proofs.YtelepamnlpebgabDoor
