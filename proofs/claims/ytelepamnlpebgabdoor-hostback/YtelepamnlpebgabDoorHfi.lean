/- host.Fit, walked. -/
import Derived.Test.YtelepamnlpebgabDoorHft
import Derived.Maps.AppendAt
namespace Go.Proofs.YtelepamnlpebgabDoor
open Go.RowKit Go.Shelf Akm Ndm
set_option linter.unusedSectionVars false
set_option linter.unusedVariables false

def intsH (L : List Nat) : List Value := L.map fun (j : Nat) => .int .i64 (j : Int)
theorem info_intH : (Tryd.prog.info? 3).map (fun i => (i.zero, i.size, i.bytes)) = some (some (.int .i64 0), 1, 8) := by kernel_rfl
theorem below_appH {B Bq : Nat} {w w4 w5 : World} {o : Obj} {v : Value} {n : Nat} {e : TypeId} {k : Nat} {xs : List Value} (h : Below B w w4) (hr : w4.ownsRow Bq e k v n xs) (hg : (w4.alloc o).grownBy w5 v.ownBlock) (hB : B ≤ Bq) (hs : Bq ≤ w4.heap.size) : Below B w w5 := by
  refine ⟨hg.os.trans h.os, hg.tape.trans h.tape, hg.output.trans h.output, ?_, fun k hk => ?_⟩
  · have h1 := hg.size
    have h2 := h.size
    simp at h1
    omega
  · rw [hg.block k (by simp; omega) (fun e => by have := (hr.lt k e.symm).1; omega), Below.heap_alloc _ _ _ (by omega), h.block k hk]
theorem owns_baseH {w : World} {B B' : Nat} {e : TypeId} {k : Nat} {v : Value} {n : Nat} {xs : List Value} (h : w.ownsRow B e k v n xs) (hB : B' ≤ B) : w.ownsRow B' e k v n xs :=
  ⟨h.1, h.2.imp id fun ⟨g, cap, cur, a, b, c⟩ => ⟨g, cap, cur, a, Nat.le_trans hB b, c⟩⟩
/-- The numbers of those that fit, behind some. -/
def fiG (t : Tr) (c : N3) : Nat → List Ht → List Nat
  | _, [] => []
  | i, h :: r => if fiB t c h = true then i :: fiG t c (i + 1) r else fiG t c (i + 1) r
theorem fiG_at {t : Tr} {c : N3} {l : List Ht} {j : Nat} {h : Ht} (hx : l[j]? = some h) : fiG t c j (l.drop j) = if fiB t c h = true then j :: fiG t c (j + 1) (l.drop (j + 1)) else fiG t c (j + 1) (l.drop (j + 1)) := by
  have hj := (List.getElem?_eq_some_iff.1 hx).1
  have e := (List.getElem?_eq_some_iff.1 hx).2
  rw [List.drop_eq_getElem_cons hj, e, fiG]
/-- What Fit answers. -/
def ftE (l : List Ht) (t : Tr) (c : N3) : Int := if hcE l ≠ 0 then hcE l else if ckT t ≠ 0 then ckT t else ce (okN c)
def ftL (l : List Ht) (t : Tr) (c : N3) : List Nat := if ftE l t c = 0 then fiG t c 0 l else []
theorem fiG_len (t : Tr) (c : N3) : ∀ (l : List Ht) (i : Nat), (fiG t c i l).length ≤ l.length
  | [], _ => by simp [fiG]
  | h :: r, i => by
    rw [fiG]
    have := fiG_len t c r (i + 1)
    split <;> simp <;> omega
theorem boxes_an (w : World) (d : N3) (c0 c1 c2 c3 c4 : Value) : ((w.alloc (.cells #[c0, c1, c2, c3, c4] 25)).alloc (.cells #[.int .i64 d.x, .int .i64 d.y, .int .i64 d.z] 27)).heap[w.heap.size]? = some (.cells #[c0, c1, c2, c3, c4] 25 (0, 0)) ∧ ((w.alloc (.cells #[c0, c1, c2, c3, c4] 25)).alloc (.cells #[.int .i64 d.x, .int .i64 d.y, .int .i64 d.z] 27)).heap[w.heap.size + 1]? = some (.cells #[.int .i64 d.x, .int .i64 d.y, .int .i64 d.z] 27 (0, 0)) ∧ Below w.heap.size w ((w.alloc (.cells #[c0, c1, c2, c3, c4] 25)).alloc (.cells #[.int .i64 d.x, .int .i64 d.y, .int .i64 d.z] 27)) := by
  refine ⟨(Below.heap_alloc _ _ _ (by simp)).trans (heap_alloc_new _ _), ?_, ((Below.refl _ _).alloc (Nat.le_refl _) _).alloc (by simp) _⟩
  have h := heap_alloc_new (w.alloc (.cells #[c0, c1, c2, c3, c4] 25)) (.cells #[.int .i64 d.x, .int .i64 d.y, .int .i64 d.z] 27)
  rw [World.size_alloc] at h
  exact h

def FitOk (w : World) (k : Int) (a b : ByteArray) (n : Int) (xs : List Tr) (p : Option Addr) (m cap : Nat) (l : List Ht) (q : Option Addr) (nl c : Nat) (d : N3) (E : Int) (F : List Nat) (nf : Nat) : Prop :=
  Calls Tryd.prog 13 #[.slice q nl c, .agg #[.int .i64 k, .string a, .string b, .int .i64 n, .slice p m cap], .agg #[.int .i64 d.x, .int .i64 d.y, .int .i64 d.z]] w fun e w' => (∃ pf cf, e = .returned (.tuple #[.slice pf nf cf, .int .i64 E]) ∧ w'.ownsRow w.heap.size 3 1 (.slice pf nf cf) nf (intsH F)) ∧ Below w.heap.size w w'

set_option maxHeartbeats 4000000 in
set_option maxRecDepth 100000 in
theorem Fit_run (k : Int) (a b : ByteArray) (n : Int) (xs : List Tr) (p : Option Addr) (m cap : Nat) (hm : xs.length = m) (l : List Ht) (q : Option Addr) (nl c : Nat) (hnl : l.length = nl) (hnc : nl ≤ c) (d : N3) (w : World) (hA : TabA w) (hv : liesT w (.mk k a b n xs) (.agg #[.int .i64 k, .string a, .string b, .int .i64 n, .slice p m cap])) (hl : Hsts w q l) (h1 : hcE l = 0) (h2 : ckT (.mk k a b n xs) = 0) (h3 : okN d = true) (F : List Nat) (hF : Hid (fiG (.mk k a b n xs) d 0 l = F)) (nf : Nat) (hnf : Hid (F.length = nf)) :
    FitOk w k a b n xs p m cap l q nl c d 0 F nf := by
  unfold FitOk
  have hn30 : nl ≤ 30 := by
    unfold hcE at h1
    by_cases h : 30 < l.length
    · rw [if_pos h] at h1; cases h1
    · omega
  obtain ⟨fx0, fn0, HB0⟩ := boxes_an w d (.int .i64 k) (.string a) (.string b) (.int .i64 n) (.slice p m cap)
  have hck := fun w1 (h : Below w.heap.size w w1) => hCheck_any q l nl c hnl hnc w1 (hA.2.below h (Nat.le_refl _)) (hl.below h) 0 h1
  have hak := fun w1 (h : Below w.heap.size w w1) => Check_any k a b n xs p m cap w1 (liesT_below _ _ hv h) hm (hA.below h (Nat.le_refl _))
  rw [h2] at hak
  have hnk := fun w1 => nCheck_any d w1
  rw [h3, show ce true = 0 from rfl] at hnk
  have hfi := fun w1 (h : Below w.heap.size w w1) (x : Ht) (pl : Option Addr) (cl : Nat) (hb : Lbs w pl x.L) (hi : (x.L.length : Int) ≤ 9223372036854775807) => isFit_any k a b n xs p m cap hm x.nm pl x.L x.L.length cl rfl hi x.hs x.us d w1 (liesT_below _ _ hv h) (hb.below h) (hA.below h (Nat.le_refl _)) _ rfl
  have hlH : Hid (Hsts w q l) := hl
  have hnH : Hid (l.length = nl) := hnl
  have h30H : Hid (nl ≤ 30) := hn30
  have hfiH : Hid (∀ w1 (h : Below w.heap.size w w1) (x : Ht) (pl : Option Addr) (cl : Nat), Lbs w pl x.L → (x.L.length : Int) ≤ 9223372036854775807 → Calls Tryd.prog 42 #[.agg #[.string x.nm, .slice pl x.L.length cl, .int .i64 x.hs.x, .int .i64 x.hs.y, .int .i64 x.hs.z, .int .i64 x.us.x, .int .i64 x.us.y, .int .i64 x.us.z], .agg #[.int .i64 k, .string a, .string b, .int .i64 n, .slice p m cap], .agg #[.int .i64 d.x, .int .i64 d.y, .int .i64 d.z]] w1 fun e w' => e = .returned (.bool (fiB (.mk k a b n xs) d x)) ∧ Below w1.heap.size w1 w') := fun w1 h x pl cl hb hi => hfi w1 h x pl cl hb hi
  clear hA hv hl h1 h2 h3 hfi hnl hnc hm hn30
  go_enter Tryd.func13, Tryd.ntmps13
  go_wp2_with (first
    | (go_at_call 15; refine (hck _ HB0).mono ?_; rintro e w3 ⟨rfl, hb3⟩; clear hck; have fx3 := (hb3.block _ (Array.getElem?_eq_some_iff.1 fx0).1).trans fx0; have fn3 := (hb3.block _ (Array.getElem?_eq_some_iff.1 fn0).1).trans fn0; have HB3 : Below w.heap.size w w3 := HB0.trans (hb3.mono HB0.size); clear fx0 fn0 HB0 hb3)
    | (refine load_wanted rfl 25 _ rfl _ rfl _ _ _ _ (fx3) Tryd.underlying25 rfl (ask_info _ rfl) ?_)
    | (go_at_call 40; refine (hak _ HB3).mono ?_; rintro e w4 ⟨rfl, hb4⟩; clear hak; have fx4 := (hb4.block _ (Array.getElem?_eq_some_iff.1 fx3).1).trans fx3; have fn4 := (hb4.block _ (Array.getElem?_eq_some_iff.1 fn3).1).trans fn3; have HB4 : Below w.heap.size w w4 := HB3.trans (hb4.mono HB3.size); clear fx3 fn3 HB3 hb4)
    | (refine load_wanted rfl 27 _ rfl _ rfl _ _ _ _ (fn4) Tryd.underlying27 rfl (need_info _ rfl) ?_)
    | (go_at_call 41; refine (hnk _).mono ?_; rintro e w5 ⟨rfl, hb5⟩; clear hnk; have fx5 := (hb5.block _ (Array.getElem?_eq_some_iff.1 fx4).1).trans fx4; have fn5 := (hb5.block _ (Array.getElem?_eq_some_iff.1 fn4).1).trans fn4; have HB5 : Below w.heap.size w w5 := HB4.trans (hb5.mono HB4.size); clear fx4 fn4 HB4 hb5)
    | go_in)
  have fxH : Hid (w5.heap[w.heap.size]? = some (.cells #[.int .i64 k, .string a, .string b, .int .i64 n, .slice p m cap] 25 (0, 0))) := fx5
  have fnH : Hid (w5.heap[w.heap.size + 1]? = some (.cells #[.int .i64 d.x, .int .i64 d.y, .int .i64 d.z] 27 (0, 0))) := fn5
  have HBH : Hid (Below w.heap.size w w5) := HB5
  have hs5 : Hid (w.heap.size + 2 ≤ w5.heap.size) := by have := (Array.getElem?_eq_some_iff.1 fn5).1; show _ ≤ _; omega
  clear fx5 fn5 HB5
  generalize (.mk k a b n xs : Tr) = t at *
  go_loopw [11, 31] (fun fv iv wr => ∃ (j : Nat) (A : List Nat) (pf : Option Addr) (cf : Nat), iv = .int .i64 j ∧ fv = .slice pf A.length cf ∧ j ≤ nl ∧ Hid (A ++ fiG t d j (l.drop j) = F) ∧ Hid (A.length ≤ j) ∧ Hid (wr.ownsRow w5.heap.size 3 1 (.slice pf A.length cf) A.length (intsH A)) ∧ Hid (Below w5.heap.size w5 wr)) (fun _ iv _ => nl - (intOf iv).toNat)
  case atStart => exact ⟨0, [], none, 0, rfl, rfl, Nat.zero_le _, by rw [List.drop_zero, List.nil_append]; exact hF, Nat.le_refl _, World.ownsRow_nil _ _ _ _, Below.refl _ _⟩
  case round =>
    obtain ⟨j, A, pf, cf, rfl, rfl, hj, hacc, hAl, hown, hbl⟩ := hrel
    by_cases hjl : j < nl
    · obtain ⟨x, hx⟩ : ∃ x, l[j]? = some x := ⟨l[j]'(by rw [hnH.out]; exact hjl), List.getElem?_eq_getElem _⟩
      obtain ⟨g, o, rfl, hg, hc⟩ := hlH.out.resolve_left (fun e => by have := hnH.out; rw [e] at this; simp at this; omega)
      obtain ⟨pl, cl, hc8, hlb, hlm, hlc⟩ := hc j x hx
      have hbw : Below w.heap.size w wr := HBH.out.trans (hbl.out.mono HBH.out.size)
      obtain ⟨⟨q0, q1⟩, ⟨q2, q3, q4⟩, ⟨q5, q6, q7⟩⟩ := hc8.below hbw hg
      have hacc2 := hacc.out
      rw [fiG_at hx] at hacc2
      have hcall := fun w1 (h : Below w.heap.size w w1) => hfiH.out w1 h x pl cl hlb hlm
      obtain ⟨nm, L, hs, us⟩ := x
      obtain ⟨ln, hln⟩ : ∃ m, L.length = m := ⟨_, rfl⟩
      simp only at q0 q1 q2 q3 q4 q5 q6 q7 hcall
      rw [hln] at q1 hcall
      have hjH : Hid (j < nl) := hjl
      have hlt : (j : Int) < (nl : Int) := by omega
      have hj30 : (j : Int) < 30 := by have := h30H.out; omega
      have g0 := heap_alloc_new wr (.cells #[.string nm, .slice pl ln cl, .int .i64 hs.x, .int .i64 hs.y, .int .i64 hs.z, .int .i64 us.x, .int .i64 us.y, .int .i64 us.z] 30)
      have hba : Below w5.heap.size w5 (wr.alloc (.cells #[.string nm, .slice pl ln cl, .int .i64 hs.x, .int .i64 hs.y, .int .i64 hs.z, .int .i64 us.x, .int .i64 us.y, .int .i64 us.z] 30)) := hbl.out.alloc hbl.out.size _
      have fx6 := (hba.block _ (Array.getElem?_eq_some_iff.1 fxH.out).1).trans fxH.out
      have fn6 := (hba.block _ (Array.getElem?_eq_some_iff.1 fnH.out).1).trans fnH.out
      have hown6 : Hid ((wr.alloc (.cells #[.string nm, .slice pl ln cl, .int .i64 hs.x, .int .i64 hs.y, .int .i64 hs.z, .int .i64 us.x, .int .i64 us.y, .int .i64 us.z] 30)).ownsRow w5.heap.size 3 1 (.slice pf A.length cf) A.length (intsH A)) := hown.out.alloc _
      have hbaH : Hid (Below w5.heap.size w5 (wr.alloc (.cells #[.string nm, .slice pl ln cl, .int .i64 hs.x, .int .i64 hs.y, .int .i64 hs.z, .int .i64 us.x, .int .i64 us.y, .int .i64 us.z] 30))) := hba
      have hbw2 : Below w.heap.size w (wr.alloc (.cells #[.string nm, .slice pl ln cl, .int .i64 hs.x, .int .i64 hs.y, .int .i64 hs.z, .int .i64 us.x, .int .i64 us.y, .int .i64 us.z] 30)) := HBH.out.trans (hba.mono HBH.out.size)
      have hc2 := hcall _ hbw2
      obtain ⟨r, hr⟩ : ∃ r, fiB t d ⟨nm, L, hs, us⟩ = r := ⟨_, rfl⟩
      rw [hr] at hc2 hacc2
      clear hx hc hc8 hlb hlm hlc hln hj hjl hba hbw hbw2 hcall hr hown hbl hacc
      cases r with
      | false =>
        rw [if_neg (by decide)] at hacc2
        have haccH : Hid (A ++ fiG t d (j + 1) (l.drop (j + 1)) = F) := hacc2
        clear hacc2
        go_wp2_with (first
          | (refine load_wanted rfl 30 _ rfl _ rfl _ _ _ _ (g0) Tryd.underlying30 rfl (host_info _ rfl) ?_)
          | (refine load_wanted rfl 25 _ rfl _ rfl _ _ _ _ (fx6) Tryd.underlying25 rfl (ask_info _ rfl) ?_)
          | (refine load_wanted rfl 27 _ rfl _ rfl _ _ _ _ (fn6) Tryd.underlying27 rfl (need_info _ rfl) ?_)
          | (go_at_call 42; refine hc2.mono ?_; rintro e w7 ⟨rfl, hb7⟩; clear hc2 g0 fx6 fn6)
          | go_in)
        refine ⟨⟨j + 1, A, pf, cf, by first | rfl | simp, rfl, hjH.out, haccH, by have := hAl.out; show _ ≤ _; omega, row_below hown6.out hb7, hbaH.out.trans (hb7.mono hbaH.out.size)⟩, ?_⟩
        have := hjH.out
        simp [intOf]
        omega
      | true =>
        rw [if_pos rfl] at hacc2
        have haccH : Hid ((A ++ [j]) ++ fiG t d (j + 1) (l.drop (j + 1)) = F) := by show _ = _; rw [← hacc2]; simp
        clear hacc2
        go_wp2_with (first
          | (refine load_wanted rfl 30 _ rfl _ rfl _ _ _ _ (g0) Tryd.underlying30 rfl (host_info _ rfl) ?_)
          | (refine load_wanted rfl 25 _ rfl _ rfl _ _ _ _ (fx6) Tryd.underlying25 rfl (ask_info _ rfl) ?_)
          | (refine load_wanted rfl 27 _ rfl _ rfl _ _ _ _ (fn6) Tryd.underlying27 rfl (need_info _ rfl) ?_)
          | (go_at_call 42; refine hc2.mono ?_; rintro e w7 ⟨rfl, hb7⟩; clear hc2 g0 fx6 fn6; have hown7 := row_below hown6.out hb7; have hB7 : Below w5.heap.size w5 w7 := hbaH.out.trans (hb7.mono hbaH.out.size); have hB7H : Hid (Below w5.heap.size w5 w7) := hB7; have hs7 := hB7.size; clear hb7 hB7)
          | (at_builtin; obtain ⟨i0, hi9, hz0, hz1, hz2⟩ := info_parts info_intH; refine wpList_append_own _ rfl _ _ 38 rfl w5.heap.size 3 i0 (.int .i64 0) 1 8 Tryd.underlying38 hi9 hz0 hz1 hz2 rfl (by decide) _ _ _ rfl (hown7.alloc _) ⟨w7.heap.size, 0, none⟩ 1 1 [.int .i64 (j : Int)] rfl rfl (cells_new _ _ _) (fun v hv => by simp at hv; subst hv; rfl) (by unfold maxLen; have := hAl.out; have := hjH.out; have := h30H.out; omega) (by have := hAl.out; have := hjH.out; have := h30H.out; omega) (by simp; omega) ?_; intro v' w8 hown8 hgrow8 hnil8; clear hi9 hz0 hz1 hz2 hnil8; obtain ⟨g8, cap8, rfl⟩ := form_succ hown8)
          | go_in)
        have hgA : (w7.alloc (.cells #[.int .i64 (j : Int)] 3)).grownBy w8 (Value.ownBlock (.slice pf A.length cf)) := hgrow8
        refine ⟨⟨j + 1, A ++ [j], some ⟨g8, 0, none⟩, cap8, by first | rfl | simp, by simp, hjH.out, haccH, by have := hAl.out; show _ ≤ _; simp; omega, ?_, below_appH hB7H.out hown7 hgA (Nat.le_refl _) hs7⟩, ?_⟩
        · show World.ownsRow _ _ _ _ _ _ _
          rw [List.length_append, List.length_singleton]
          unfold intsH at hown8 ⊢
          rw [List.map_append, List.map_cons, List.map_nil]
          exact hown8
        · have := hjH.out
          simp [intOf]
          omega
    · have hlt : ¬ (j : Int) < (nl : Int) := by omega
      have hFe : A = F := by
        have := hacc.out
        rw [List.drop_of_length_le (by rw [hnH.out]; omega), fiG, List.append_nil] at this
        exact this
      subst hFe
      obtain rfl := hnf.out
      go_wp2
      go_ret2
      exact ⟨⟨pf, cf, rfl, owns_baseH hown.out HBH.out.size⟩, HBH.out.trans (hbl.out.mono HBH.out.size)⟩

set_option maxHeartbeats 4000000 in
set_option maxRecDepth 100000 in
theorem Fit_bad (k : Int) (a b : ByteArray) (n : Int) (xs : List Tr) (p : Option Addr) (m cap : Nat) (hm : xs.length = m) (l : List Ht) (q : Option Addr) (nl c : Nat) (hnl : l.length = nl) (hnc : nl ≤ c) (d : N3) (w : World) (hA : TabA w) (hv : liesT w (.mk k a b n xs) (.agg #[.int .i64 k, .string a, .string b, .int .i64 n, .slice p m cap])) (hl : Hsts w q l) (E : Int) (hE : ftE l (.mk k a b n xs) d = E) (h0 : E ≠ 0) :
    FitOk w k a b n xs p m cap l q nl c d E [] 0 := by
  unfold FitOk
  obtain ⟨fx0, fn0, HB0⟩ := boxes_an w d (.int .i64 k) (.string a) (.string b) (.int .i64 n) (.slice p m cap)
  obtain ⟨E1, hE1⟩ : ∃ E1, hcE l = E1 := ⟨_, rfl⟩
  obtain ⟨E2, hE2⟩ : ∃ E2, ckT (.mk k a b n xs) = E2 := ⟨_, rfl⟩
  have hck := fun w1 (h : Below w.heap.size w w1) => hCheck_any q l nl c hnl hnc w1 (hA.2.below h (Nat.le_refl _)) (hl.below h) E1 hE1
  have hak := fun w1 (h : Below w.heap.size w w1) => Check_any k a b n xs p m cap w1 (liesT_below _ _ hv h) hm (hA.below h (Nat.le_refl _))
  rw [hE2] at hak
  have hnk := fun w1 => nCheck_any d w1
  unfold ftE at hE
  rw [hE1, hE2] at hE
  have h0' : (E != 0) = true := by simpa using h0
  clear hA hv hl hnl hnc hm hE1 hE2
  by_cases g1 : E1 = 0
  · subst g1
    rw [if_neg (by decide)] at hE
    by_cases g2 : E2 = 0
    · subst g2
      rw [if_neg (by decide)] at hE
      rw [hE] at hnk
      clear hE h0
      go_enter Tryd.func13, Tryd.ntmps13
      go_wp2_with (first
        | (go_at_call 15; refine (hck _ HB0).mono ?_; rintro e w3 ⟨rfl, hb3⟩; clear hck; have fx3 := (hb3.block _ (Array.getElem?_eq_some_iff.1 fx0).1).trans fx0; have fn3 := (hb3.block _ (Array.getElem?_eq_some_iff.1 fn0).1).trans fn0; have HB3 : Below w.heap.size w w3 := HB0.trans (hb3.mono HB0.size); clear fx0 fn0 HB0 hb3)
        | (refine load_wanted rfl 25 _ rfl _ rfl _ _ _ _ (fx3) Tryd.underlying25 rfl (ask_info _ rfl) ?_)
        | (go_at_call 40; refine (hak _ HB3).mono ?_; rintro e w4 ⟨rfl, hb4⟩; clear hak; have fx4 := (hb4.block _ (Array.getElem?_eq_some_iff.1 fx3).1).trans fx3; have fn4 := (hb4.block _ (Array.getElem?_eq_some_iff.1 fn3).1).trans fn3; have HB4 : Below w.heap.size w w4 := HB3.trans (hb4.mono HB3.size); clear fx3 fn3 HB3 hb4)
        | (refine load_wanted rfl 27 _ rfl _ rfl _ _ _ _ (fn4) Tryd.underlying27 rfl (need_info _ rfl) ?_)
        | (go_at_call 41; refine (hnk _).mono ?_; rintro e w5 ⟨rfl, hb5⟩; clear hnk; have HB5 : Below w.heap.size w w5 := HB4.trans (hb5.mono HB4.size); clear fx4 fn4 HB4 hb5)
        | go_in)
      go_ret2
      exact ⟨⟨none, 0, rfl, World.ownsRow_nil _ _ _ _⟩, HB5⟩
    · rw [if_pos g2] at hE
      subst hE
      clear h0 g2 hnk
      go_enter Tryd.func13, Tryd.ntmps13
      go_wp2_with (first
        | (go_at_call 15; refine (hck _ HB0).mono ?_; rintro e w3 ⟨rfl, hb3⟩; clear hck; have fx3 := (hb3.block _ (Array.getElem?_eq_some_iff.1 fx0).1).trans fx0; have HB3 : Below w.heap.size w w3 := HB0.trans (hb3.mono HB0.size); clear fx0 fn0 HB0 hb3)
        | (refine load_wanted rfl 25 _ rfl _ rfl _ _ _ _ (fx3) Tryd.underlying25 rfl (ask_info _ rfl) ?_)
        | (go_at_call 40; refine (hak _ HB3).mono ?_; rintro e w4 ⟨rfl, hb4⟩; clear hak; have HB4 : Below w.heap.size w w4 := HB3.trans (hb4.mono HB3.size); clear fx3 HB3 hb4)
        | go_in)
      go_ret2
      exact ⟨⟨none, 0, rfl, World.ownsRow_nil _ _ _ _⟩, HB4⟩
  · rw [if_pos g1] at hE
    subst hE
    clear h0 g1 hnk hak
    go_enter Tryd.func13, Tryd.ntmps13
    go_wp2_with (first
      | (go_at_call 15; refine (hck _ HB0).mono ?_; rintro e w3 ⟨rfl, hb3⟩; clear hck; have HB3 : Below w.heap.size w w3 := HB0.trans (hb3.mono HB0.size); clear fx0 fn0 HB0 hb3)
      | go_in)
    go_ret2
    exact ⟨⟨none, 0, rfl, World.ownsRow_nil _ _ _ _⟩, HB3⟩

theorem ftE_zero {l : List Ht} {t : Tr} {d : N3} (h : ftE l t d = 0) : hcE l = 0 ∧ ckT t = 0 ∧ okN d = true := by
  unfold ftE at h
  by_cases g1 : hcE l = 0
  · rw [if_neg (by simpa using g1)] at h
    by_cases g2 : ckT t = 0
    · rw [if_neg (by simpa using g2)] at h
      refine ⟨g1, g2, ?_⟩
      cases e : okN d with
      | true => rfl
      | false => rw [e] at h; cases h
    · rw [if_pos g2] at h
      exact absurd h g2
  · rw [if_pos g1] at h
    exact absurd h g1
theorem Fit_any (k : Int) (a b : ByteArray) (n : Int) (xs : List Tr) (p : Option Addr) (m cap : Nat) (hm : xs.length = m) (l : List Ht) (q : Option Addr) (nl c : Nat) (hnl : l.length = nl) (hnc : nl ≤ c) (d : N3) (w : World) (hA : TabA w) (hv : liesT w (.mk k a b n xs) (.agg #[.int .i64 k, .string a, .string b, .int .i64 n, .slice p m cap])) (hl : Hsts w q l) :
    FitOk w k a b n xs p m cap l q nl c d (ftE l (.mk k a b n xs) d) (ftL l (.mk k a b n xs) d) (ftL l (.mk k a b n xs) d).length := by
  by_cases h0 : ftE l (.mk k a b n xs) d = 0
  · obtain ⟨h1, h2, h3⟩ := ftE_zero h0
    have := Fit_run k a b n xs p m cap hm l q nl c hnl hnc d w hA hv hl h1 h2 h3 _ rfl _ rfl
    unfold ftL
    rw [if_pos h0, h0]
    exact this
  · have := Fit_bad k a b n xs p m cap hm l q nl c hnl hnc d w hA hv hl _ rfl h0
    unfold ftL
    rw [if_neg h0]
    exact this
end Go.Proofs.YtelepamnlpebgabDoor
