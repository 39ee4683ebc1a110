/- host.Best; hosts(): hosts are alive. -/
import Derived.Test.YtelepamnlpebgabDoorHbs
namespace Go.Proofs.YtelepamnlpebgabDoor
open Go.RowKit Go.Shelf Akm Ndm
set_option linter.unusedSectionVars false
set_option linter.unusedVariables false

theorem fiG_mem (t : Tr) (c : N3) : ∀ (l : List Ht) (i x : Nat), x ∈ fiG t c i l ↔ ∃ j h, x = i + j ∧ l[j]? = some h ∧ fiB t c h = true
  | [], i, x => by simp [fiG]
  | h :: r, i, x => by
    have ih := fiG_mem t c r (i + 1) x
    rw [fiG]
    constructor
    · intro hx
      by_cases e : fiB t c h = true
      · rw [if_pos e] at hx
        rcases List.mem_cons.1 hx with e2 | e2
        · exact ⟨0, h, by omega, rfl, e⟩
        · obtain ⟨j, h', h1, h2, h3⟩ := ih.1 e2
          exact ⟨j + 1, h', by omega, by simpa using h2, h3⟩
      · rw [if_neg e] at hx
        obtain ⟨j, h', h1, h2, h3⟩ := ih.1 hx
        exact ⟨j + 1, h', by omega, by simpa using h2, h3⟩
    · rintro ⟨j, h', h1, h2, h3⟩
      cases j with
      | zero =>
        obtain rfl : h = h' := by simpa using h2
        rw [if_pos h3]
        exact List.mem_cons.2 (Or.inl (by omega))
      | succ j =>
        have : x ∈ fiG t c (i + 1) r := ih.2 ⟨j, h', by omega, by simpa using h2, h3⟩
        split
        · exact List.mem_cons_of_mem _ this
        · exact this
theorem ftL_mem {l : List Ht} {t : Tr} {d : N3} (h0 : ftE l t d = 0) {x : Nat} : x ∈ ftL l t d ↔ ∃ h, l[x]? = some h ∧ fiB t d h = true := by
  unfold ftL
  rw [if_pos h0, fiG_mem]
  constructor
  · rintro ⟨j, h, h1, h2, h3⟩
    obtain rfl : x = j := by omega
    exact ⟨h, h2, h3⟩
  · rintro ⟨h, h2, h3⟩
    exact ⟨x, h, by omega, h2, h3⟩
theorem ftL_lt {l : List Ht} {t : Tr} {d : N3} (h0 : ftE l t d = 0) {x : Nat} (hx : x ∈ ftL l t d) : x < l.length := by
  obtain ⟨h, h1, _⟩ := (ftL_mem h0).1 hx
  exact (List.getElem?_eq_some_iff.1 h1).1
theorem hc_30 {l : List Ht} {t : Tr} {d : N3} (h0 : ftE l t d = 0) : l.length ≤ 30 := by
  have h1 := (ftE_zero h0).1
  unfold hcE at h1
  by_cases h : 30 < l.length
  · rw [if_pos h] at h1; cases h1
  · omega
def bsE (l : List Ht) (t : Tr) (d : N3) : Int := if ftE l t d ≠ 0 then ftE l t d else if (ftL l t d).isEmpty = true then 5 else 0
def bsK (l : List Ht) (t : Tr) (d : N3) : Nat := match ftL l t d with
  | [] => 0
  | m :: F => mnG (lfA l d) m F

theorem boxes_san (w : World) (q : Option Addr) (nl c : Nat) (d : N3) (c0 c1 c2 c3 c4 : Value) : (((w.alloc (.cells #[.slice q nl c] 22)).alloc (.cells #[c0, c1, c2, c3, c4] 25)).alloc (.cells #[.int .i64 d.x, .int .i64 d.y, .int .i64 d.z] 27)).heap[w.heap.size]? = some (.cells #[.slice q nl c] 22 (0, 0)) ∧ (((w.alloc (.cells #[.slice q nl c] 22)).alloc (.cells #[c0, c1, c2, c3, c4] 25)).alloc (.cells #[.int .i64 d.x, .int .i64 d.y, .int .i64 d.z] 27)).heap[w.heap.size + 1]? = some (.cells #[c0, c1, c2, c3, c4] 25 (0, 0)) ∧ (((w.alloc (.cells #[.slice q nl c] 22)).alloc (.cells #[c0, c1, c2, c3, c4] 25)).alloc (.cells #[.int .i64 d.x, .int .i64 d.y, .int .i64 d.z] 27)).heap[w.heap.size + 1 + 1]? = some (.cells #[.int .i64 d.x, .int .i64 d.y, .int .i64 d.z] 27 (0, 0)) ∧ Below w.heap.size w (((w.alloc (.cells #[.slice q nl c] 22)).alloc (.cells #[c0, c1, c2, c3, c4] 25)).alloc (.cells #[.int .i64 d.x, .int .i64 d.y, .int .i64 d.z] 27)) := by
  refine ⟨(Below.heap_alloc _ _ _ (by simp; omega)).trans ((Below.heap_alloc _ _ _ (by simp)).trans (heap_alloc_new _ _)), ?_, ?_, (((Below.refl _ _).alloc (Nat.le_refl _) _).alloc (by simp) _).alloc (by simp; omega) _⟩
  · have h := heap_alloc_new (w.alloc (.cells #[.slice q nl c] 22)) (.cells #[c0, c1, c2, c3, c4] 25)
    rw [World.size_alloc] at h
    exact (Below.heap_alloc _ _ _ (by simp)).trans h
  · have h := heap_alloc_new ((w.alloc (.cells #[.slice q nl c] 22)).alloc (.cells #[c0, c1, c2, c3, c4] 25)) (.cells #[.int .i64 d.x, .int .i64 d.y, .int .i64 d.z] 27)
    rw [World.size_alloc, World.size_alloc] at h
    exact h

set_option maxHeartbeats 4000000 in
set_option maxRecDepth 100000 in
theorem Best_any (k : Int) (a b : ByteArray) (n : Int) (xs : List Tr) (p : Option Addr) (m cap : Nat) (hm : xs.length = m) (l : List Ht) (q : Option Addr) (nl c : Nat) (hnl : l.length = nl) (hnc : nl ≤ c) (d : N3) (w : World) (hA : TabA w) (hv : liesT w (.mk k a b n xs) (.agg #[.int .i64 k, .string a, .string b, .int .i64 n, .slice p m cap])) (hl : Hsts w q l) :
    Calls Tryd.prog 14 #[.slice q nl c, .agg #[.int .i64 k, .string a, .string b, .int .i64 n, .slice p m cap], .agg #[.int .i64 d.x, .int .i64 d.y, .int .i64 d.z]] w fun e w' => e = .returned (.tuple #[.int .i64 ((bsK l (.mk k a b n xs) d : Nat) : Int), .int .i64 (bsE l (.mk k a b n xs) d)]) ∧ Below w.heap.size w w' := by
  obtain ⟨s0, x0, d0, HB0⟩ := boxes_san w q nl c d (.int .i64 k) (.string a) (.string b) (.int .i64 n) (.slice p m cap)
  have hft := Fit_any k a b n xs p m cap hm l q nl c hnl hnc d _ (hA.below HB0 (Nat.le_refl _)) (liesT_below _ _ hv HB0) (hl.below HB0)
  unfold FitOk at hft
  have hsz0 : w.heap.size ≤ (((w.alloc (.cells #[.slice q nl c] 22)).alloc (.cells #[.int .i64 k, .string a, .string b, .int .i64 n, .slice p m cap] 25)).alloc (.cells #[.int .i64 d.x, .int .i64 d.y, .int .i64 d.z] 27)).heap.size := HB0.size
  unfold bsE bsK
  by_cases h0 : ftE l (.mk k a b n xs) d = 0
  · have h30 := hc_30 h0
    have hlt := fun x (hx : x ∈ ftL l (.mk k a b n xs) d) => ftL_lt h0 hx
    rw [h0] at hft ⊢
    rw [if_neg (by decide)]
    obtain ⟨L, hL⟩ : ∃ L, ftL l (.mk k a b n xs) d = L := ⟨_, rfl⟩
    rw [hL] at hft hlt ⊢
    have hlen : L.length ≤ 30 := by
      rw [← hL]
      unfold ftL
      rw [if_pos h0]
      exact Nat.le_trans (fiG_len _ _ _ _) h30
    have z0 : (((w.alloc (.cells #[.slice q nl c] 22)).alloc (.cells #[.int .i64 k, .string a, .string b, .int .i64 n, .slice p m cap] 25)).alloc (.cells #[.int .i64 d.x, .int .i64 d.y, .int .i64 d.z] 27)).cell? ⟨w.heap.size, 0, none⟩ = some (.slice q nl c) := (cell_of_row _ _ 0 _ _ _ s0).trans rfl
    cases L with
    | nil =>
      have hft2 : Calls Tryd.prog 13 #[.slice q nl c, .agg #[.int .i64 k, .string a, .string b, .int .i64 n, .slice p m cap], .agg #[.int .i64 d.x, .int .i64 d.y, .int .i64 d.z]] (((w.alloc (.cells #[.slice q nl c] 22)).alloc (.cells #[.int .i64 k, .string a, .string b, .int .i64 n, .slice p m cap] 25)).alloc (.cells #[.int .i64 d.x, .int .i64 d.y, .int .i64 d.z] 27)) fun e w' => (∃ pf cf, e = .returned (.tuple #[.slice pf 0 cf, .int .i64 0])) ∧ Below (((w.alloc (.cells #[.slice q nl c] 22)).alloc (.cells #[.int .i64 k, .string a, .string b, .int .i64 n, .slice p m cap] 25)).alloc (.cells #[.int .i64 d.x, .int .i64 d.y, .int .i64 d.z] 27)).heap.size (((w.alloc (.cells #[.slice q nl c] 22)).alloc (.cells #[.int .i64 k, .string a, .string b, .int .i64 n, .slice p m cap] 25)).alloc (.cells #[.int .i64 d.x, .int .i64 d.y, .int .i64 d.z] 27)) w' := hft.mono fun e w' ⟨⟨pf, cf, h1, _⟩, h2⟩ => ⟨⟨pf, cf, h1⟩, h2⟩
      clear hft hL h0 h30 hlt hA hv hl hnl hnc hm s0 hlen
      go_enter Tryd.func14, Tryd.ntmps14
      go_wp2_with (first
        | (refine load_wanted rfl 25 _ rfl _ rfl _ _ _ _ (x0) Tryd.underlying25 rfl (ask_info _ rfl) ?_)
        | (refine load_wanted rfl 27 _ rfl _ rfl _ _ _ _ (d0) Tryd.underlying27 rfl (need_info _ rfl) ?_)
        | (go_at_call 13; refine hft2.mono ?_; rintro e w3 ⟨⟨pf, cf, rfl⟩, hb3⟩; clear hft2)
        | go_in)
      go_ret2
      exact ⟨rfl, HB0.trans (hb3.mono HB0.size)⟩
    | cons m0 F =>
      have hmf := fun (w3 : World) (hb : Below w.heap.size w w3) (gf cf : Nat) (hq : w3.heap[w.heap.size]? = some (.cells #[.slice q nl c] 22 (0, 0))) (hd : w3.heap[w.heap.size + 1 + 1]? = some (.cells #[.int .i64 d.x, .int .i64 d.y, .int .i64 d.z] 27 (0, 0))) (B : Nat) (ho : w3.ownsRow B 3 1 (.slice (some ⟨gf, 0, none⟩) (F.length + 1) cf) (F.length + 1) (intsH (m0 :: F))) => minFunc_any l q nl c w.heap.size (w.heap.size + 1 + 1) hnl (by omega) d w3 (hl.below hb) hq hd F m0 (F.length + 1) rfl (by simpa using hlen) (fun x hx => by rw [← hnl]; exact hlt x hx) gf cf B ho
      have hft2 : Calls Tryd.prog 13 #[.slice q nl c, .agg #[.int .i64 k, .string a, .string b, .int .i64 n, .slice p m cap], .agg #[.int .i64 d.x, .int .i64 d.y, .int .i64 d.z]] (((w.alloc (.cells #[.slice q nl c] 22)).alloc (.cells #[.int .i64 k, .string a, .string b, .int .i64 n, .slice p m cap] 25)).alloc (.cells #[.int .i64 d.x, .int .i64 d.y, .int .i64 d.z] 27)) fun e w' => (∃ gf cf, e = .returned (.tuple #[.slice (some ⟨gf, 0, none⟩) (F.length + 1) cf, .int .i64 0]) ∧ w'.ownsRow (((w.alloc (.cells #[.slice q nl c] 22)).alloc (.cells #[.int .i64 k, .string a, .string b, .int .i64 n, .slice p m cap] 25)).alloc (.cells #[.int .i64 d.x, .int .i64 d.y, .int .i64 d.z] 27)).heap.size 3 1 (.slice (some ⟨gf, 0, none⟩) (F.length + 1) cf) (F.length + 1) (intsH (m0 :: F))) ∧ Below (((w.alloc (.cells #[.slice q nl c] 22)).alloc (.cells #[.int .i64 k, .string a, .string b, .int .i64 n, .slice p m cap] 25)).alloc (.cells #[.int .i64 d.x, .int .i64 d.y, .int .i64 d.z] 27)).heap.size (((w.alloc (.cells #[.slice q nl c] 22)).alloc (.cells #[.int .i64 k, .string a, .string b, .int .i64 n, .slice p m cap] 25)).alloc (.cells #[.int .i64 d.x, .int .i64 d.y, .int .i64 d.z] 27)) w' := hft.mono fun e w' ⟨⟨pf, cf, h1, ho⟩, h2⟩ => by
        obtain ⟨gf, cf2, e2⟩ := form_succ ho
        cases e2
        exact ⟨⟨gf, cf, h1, ho⟩, h2⟩
      obtain ⟨K, hK⟩ : ∃ K, mnG (lfA l d) m0 F = K := ⟨_, rfl⟩
      rw [hK] at hmf
      show Calls _ _ _ _ fun e w' => e = .returned (.tuple #[.int .i64 ((mnG (lfA l d) m0 F : Nat) : Int), .int .i64 0]) ∧ _
      rw [hK]
      obtain ⟨nf, hnf⟩ : ∃ nf, F.length + 1 = nf := ⟨_, rfl⟩
      have hnf0 : ¬ nf = 0 := by omega
      have hnf1 : ((nf : Int) == 0) = false := by simpa using hnf0
      rw [hnf] at hft2 hmf
      clear hft hL h0 h30 hlt hA hv hl hnl hnc hm hK hlen hnf
      go_enter Tryd.func14, Tryd.ntmps14
      go_wp2_with (first
        | (refine load_wanted rfl 25 _ rfl _ rfl _ _ _ _ (x0) Tryd.underlying25 rfl (ask_info _ rfl) ?_)
        | (refine load_wanted rfl 27 _ rfl _ rfl _ _ _ _ (d0) Tryd.underlying27 rfl (need_info _ rfl) ?_)
        | (go_at_call 13; refine hft2.mono ?_; rintro e w3 ⟨⟨gf, cf, rfl, ho⟩, hb3⟩; clear hft2; have HB3 : Below w.heap.size w w3 := HB0.trans (hb3.mono HB0.size); have s3 := (hb3.block _ (Array.getElem?_eq_some_iff.1 s0).1).trans s0; have d3 := (hb3.block _ (Array.getElem?_eq_some_iff.1 d0).1).trans d0; clear x0 d0 s0 z0 HB0 hb3)
        | (go_at_call 43; refine (hmf _ HB3 _ _ s3 d3 _ ho).mono ?_; rintro e w4 ⟨rfl, hb4⟩; clear hmf)
        | go_in)
      go_ret2
      exact ⟨rfl, HB3.trans (hb4.mono HB3.size)⟩
  · have hLn : ftL l (.mk k a b n xs) d = [] := by unfold ftL; rw [if_neg h0]
    rw [hLn] at hft ⊢
    rw [if_pos h0]
    generalize ftE l (.mk k a b n xs) d = E at *
    have z0 : (((w.alloc (.cells #[.slice q nl c] 22)).alloc (.cells #[.int .i64 k, .string a, .string b, .int .i64 n, .slice p m cap] 25)).alloc (.cells #[.int .i64 d.x, .int .i64 d.y, .int .i64 d.z] 27)).cell? ⟨w.heap.size, 0, none⟩ = some (.slice q nl c) := (cell_of_row _ _ 0 _ _ _ s0).trans rfl
    have hne : (E != 0) = true := by simpa using h0
    have hft2 : Calls Tryd.prog 13 #[.slice q nl c, .agg #[.int .i64 k, .string a, .string b, .int .i64 n, .slice p m cap], .agg #[.int .i64 d.x, .int .i64 d.y, .int .i64 d.z]] (((w.alloc (.cells #[.slice q nl c] 22)).alloc (.cells #[.int .i64 k, .string a, .string b, .int .i64 n, .slice p m cap] 25)).alloc (.cells #[.int .i64 d.x, .int .i64 d.y, .int .i64 d.z] 27)) fun e w' => (∃ pf cf, e = .returned (.tuple #[.slice pf 0 cf, .int .i64 E])) ∧ Below (((w.alloc (.cells #[.slice q nl c] 22)).alloc (.cells #[.int .i64 k, .string a, .string b, .int .i64 n, .slice p m cap] 25)).alloc (.cells #[.int .i64 d.x, .int .i64 d.y, .int .i64 d.z] 27)).heap.size (((w.alloc (.cells #[.slice q nl c] 22)).alloc (.cells #[.int .i64 k, .string a, .string b, .int .i64 n, .slice p m cap] 25)).alloc (.cells #[.int .i64 d.x, .int .i64 d.y, .int .i64 d.z] 27)) w' := hft.mono fun e w' ⟨⟨pf, cf, h1, _⟩, h2⟩ => ⟨⟨pf, cf, h1⟩, h2⟩
    clear hft hLn h0 hA hv hl hnl hnc hm s0
    go_enter Tryd.func14, Tryd.ntmps14
    go_wp2_with (first
      | (refine load_wanted rfl 25 _ rfl _ rfl _ _ _ _ (x0) Tryd.underlying25 rfl (ask_info _ rfl) ?_)
      | (refine load_wanted rfl 27 _ rfl _ rfl _ _ _ _ (d0) Tryd.underlying27 rfl (need_info _ rfl) ?_)
      | (go_at_call 13; refine hft2.mono ?_; rintro e w3 ⟨⟨pf, cf, rfl⟩, hb3⟩; clear hft2)
      | go_in)
    go_ret2
    exact ⟨rfl, HB0.trans (hb3.mono HB0.size)⟩

theorem hsts_new (w : World) (nm : ByteArray) : Hsts (w.alloc (.cells #[.string nm, .slice none 0 0, .int .i64 0, .int .i64 0, .int .i64 0, .int .i64 0, .int .i64 0, .int .i64 0] 30)) (some ⟨w.heap.size, 0, none⟩) [⟨nm, [], nz, nz⟩] := by
  refine Or.inr ⟨w.heap.size, 0, rfl, by simp, fun j h hj => ?_⟩
  have hj0 : j = 0 := by
    have := (List.getElem?_eq_some_iff.1 hj).1
    simp at this
    exact this
  subst hj0
  obtain rfl : (⟨nm, [], nz, nz⟩ : Ht) = h := by simpa using hj
  have g := heap_alloc_new w (.cells #[.string nm, .slice none 0 0, .int .i64 0, .int .i64 0, .int .i64 0, .int .i64 0, .int .i64 0, .int .i64 0] 30)
  refine ⟨none, 0, ⟨⟨?_, ?_⟩, ⟨?_, ?_, ?_⟩, ⟨?_, ?_, ?_⟩⟩, Or.inl rfl, by simp, by simp⟩
  · exact (cell_of_row _ _ 0 _ _ _ g).trans rfl
  · exact (cell_of_row _ _ 1 _ _ _ g).trans rfl
  · exact (cell_of_row _ _ 2 _ _ _ g).trans rfl
  · exact (cell_of_row _ _ 3 _ _ _ g).trans rfl
  · exact (cell_of_row _ _ 4 _ _ _ g).trans rfl
  · exact (cell_of_row _ _ 5 _ _ _ g).trans rfl
  · exact (cell_of_row _ _ 6 _ _ _ g).trans rfl
  · exact (cell_of_row _ _ 7 _ _ _ g).trans rfl
theorem lies_atomH (w : World) (k : Int) (a b : ByteArray) (n : Int) : liesT w (.mk k a b n []) (.agg #[.int .i64 k, .string a, .string b, .int .i64 n, .slice none 0 0]) := by
  rw [liesT]
  exact ⟨none, 0, rfl, by simp, Or.inl rfl⟩
theorem al_1 : bsE [⟨⟨#[97]⟩, [], nz, nz⟩] (.mk 3 ⟨#[99, 112, 117]⟩ ⟨#[]⟩ 0 []) nz = 0 := by decide +kernel
theorem al_2 : bsK [⟨⟨#[97]⟩, [], nz, nz⟩] (.mk 3 ⟨#[99, 112, 117]⟩ ⟨#[]⟩ 0 []) nz = 0 := by decide +kernel
theorem al_3 : hcE [⟨⟨#[]⟩, [], nz, nz⟩] = 3 := by decide +kernel

set_option maxHeartbeats 4000000 in
set_option maxRecDepth 100000 in
theorem hosts_any (w : World) (hA : TabA w) : Calls Tryd.prog 25 #[] w fun e w' => e = .returned (.bool true) ∧ Below w.heap.size w w' := by
  have hb1 : Below w.heap.size w (w.alloc (.cells #[.string ⟨#[97]⟩, .slice none 0 0, .int .i64 0, .int .i64 0, .int .i64 0, .int .i64 0, .int .i64 0, .int .i64 0] 30)) := (Below.refl _ _).alloc (Nat.le_refl _) _
  have hbe := Best_any 3 ⟨#[99, 112, 117]⟩ ⟨#[]⟩ 0 [] none 0 0 rfl [⟨⟨#[97]⟩, [], nz, nz⟩] (some ⟨w.heap.size, 0, none⟩) 1 1 rfl (Nat.le_refl _) nz _ (hA.below hb1 (Nat.le_refl _)) (lies_atomH _ 3 ⟨#[99, 112, 117]⟩ ⟨#[]⟩ 0) (hsts_new w ⟨#[97]⟩)
  rw [al_1, al_2] at hbe
  have hck := fun w1 (h : Below w.heap.size w w1) => (fun (h2 : Below w.heap.size w (w1.alloc (.cells #[.string ⟨#[]⟩, .slice none 0 0, .int .i64 0, .int .i64 0, .int .i64 0, .int .i64 0, .int .i64 0, .int .i64 0] 30))) => hCheck_any (some ⟨w1.heap.size, 0, none⟩) [⟨⟨#[]⟩, [], nz, nz⟩] 1 1 rfl (Nat.le_refl _) _ (hA.2.below h2 (Nat.le_refl _)) (hsts_new w1 ⟨#[]⟩) 3 al_3) (h.alloc h.size _)
  have hb1H : Hid (Below w.heap.size w (w.alloc (.cells #[.string ⟨#[97]⟩, .slice none 0 0, .int .i64 0, .int .i64 0, .int .i64 0, .int .i64 0, .int .i64 0, .int .i64 0] 30))) := hb1
  clear hA hb1
  go_enter Tryd.func25, Tryd.ntmps25
  go_wp2_with (first
    | (go_at_call 14; refine hbe.mono ?_; rintro e w3 ⟨rfl, hb3⟩; clear hbe; have HB3 : Below w.heap.size w w3 := hb1H.out.trans (hb3.mono hb1H.out.size); clear hb3)
    | (go_at_call 15; refine (hck _ HB3).mono ?_; rintro e w4 ⟨rfl, hb4⟩; clear hck)
    | go_in)
  go_ret
  exact ⟨by first | rfl | simp, (HB3.alloc HB3.size _).trans (hb4.mono (HB3.alloc HB3.size _).size)⟩
end Go.Proofs.YtelepamnlpebgabDoor
