/- ListTurns, walked. -/
import Derived.Test.YthfpdbogbmccjabDoorOls
import Derived.Test.YthfpdbogbmccjabDoorJsa
namespace Go.Proofs.YthfpdbogbmccjabDoor
open Go.RowKit Gm Pm
set_option linter.unusedSectionVars false
set_option linter.unusedVariables false

/-- What is true of the turns that Graph gives. -/
structure Tf (n m : Nat) (l : List Ed) (d : Nat → Int) (t : Int) (A H : Nat → Int) : Prop where
  ran : ∀ i, i < n → 0 ≤ A i ∧ A i + d i ≤ t ∧ 0 ≤ H i ∧ H i < (m : Int)
  tb : 0 ≤ t ∧ t ≤ 60000000000
  ap : ∀ i k, i < n → k < n → i ≠ k → H i = H k → A i + d i ≤ A k ∨ A k + d k ≤ A i
  ed : ∀ k i, k < n → i < n → eB l k i = true → A k + d k ≤ A i
theorem Gok.facts {w0 w : World} {gT n m : Nat} {l : List Ed} {d : Nat → Int} {t : Int} {s : Wst} (h : Gok w0 w gT n m l d t s) (hg : Gr n l) (hac : ∀ i, ¬ Rch (eB l) i i) (hd : ∀ i, i < n → 0 ≤ d i ∧ d i ≤ 1000000000) (hm : 1 ≤ m) : Tf n m l d t s.A s.H := by
  obtain ⟨hw, _, _⟩ := h.run.both hg hd
  have hb := h.run.bnd hg hd
  have hall := hw.all hg hac hd ⟨hb.1, by omega⟩ hm h.stk h.nx
  have hE : ∀ i, i < n → 0 ≤ s.A i ∧ s.E i = s.A i + d i ∧ 0 ≤ s.H i ∧ s.H i < (m : Int) := fun i hi => by
    rcases hw.job i hi with e | ⟨h1, h2, h3, h4, h5, _⟩
    · exact absurd e (hall i hi).1
    · exact ⟨h1, h3, h4, h5⟩
  refine ⟨fun i hi => ?_, hb, fun i k hi hk hik hH => ?_, fun k i hk hi he => ?_⟩
  · obtain ⟨h1, h2, h3, h4⟩ := hE i hi
    have := (hall i hi).2
    exact ⟨h1, by omega, h3, h4⟩
  · have := hw.apart i k hi hk hik (hall i hi).1 (hall k hk).1 hH
    have h1 := (hE i hi).2.1
    have h2 := (hE k hk).2.1
    rw [h1, h2] at this
    exact this
  · have := (hw.edge k i he (hall i hi).1).2
    have h1 := (hE k hk).2.1
    omega

set_option maxHeartbeats 4000000 in
set_option maxRecDepth 100000 in
theorem listTurns_walk (m n : Int) (q : Option Addr) (l : List Ed) (cap : Nat) (pd : Option Addr) (d : List Int) (cd : Nat) (w : World) (hZ : TabZ w) (h : Eds w q l) (hd : Nums w pd d) :
    Calls Tryd.prog 3 #[.int .i64 m, .int .i64 n, .slice q l.length cap, .slice pd d.length cd] w fun e w' => e = .returned (.bool true) ∧ Below w.heap.size w w' := by
  have hpa := lists_any w
  have hEb : Hid (∀ w1, Below w.heap.size w w1 → Eds w1 q l) := fun w1 hb => h.below hb (Nat.le_refl _)
  have hdb : Hid (∀ w1, Below w.heap.size w w1 → Nums w1 pd d) := fun w1 hb => hd.below hb (Nat.le_refl _)
  have hZb : Hid (∀ w1, Below w.heap.size w w1 → TabZ w1) := fun w1 hb => hZ.below hb (Nat.le_refl _)
  by_cases h0 : gc m n l d = 0
  · have hgo : Hid (∀ w1, Below w.heap.size w w1 → _) := fun w1 hb => graph_ok (cap := cap) (cd := cd) (hEb.out w1 hb) (hZb.out w1 hb) (hdb.out w1 hb) h0
    obtain ⟨hmc, hpe⟩ := gc_zero h0
    obtain ⟨hc0, hdn, hdu, hac⟩ := pe_zero hpe
    obtain ⟨hn0, hn60, hl4, _⟩ := chk_ok hc0
    obtain ⟨N, rfl⟩ : ∃ N : Nat, n = N := ⟨n.toNat, by omega⟩
    obtain ⟨M, rfl⟩ : ∃ M : Nat, m = M := ⟨m.toNat, by omega⟩
    have hdN : d.length = N := by omega
    have hdNH : Hid (d.length = N) := hdN
    have hgr : Gr N l := by have h3 := chk_gr hc0; rwa [Int.toNat_natCast] at h3
    have hgH : Hid (Gr N l) := hgr
    have hlH : Hid (l.length ≤ 400) := hl4
    have hDH : Hid (∀ i, i < N → 0 ≤ nm d i ∧ nm d i ≤ 1000000000) := dur_nm hdN hdu
    have hTf : Hid (∀ w0 w1 gT t s, Gok w0 w1 gT N M l (nm d) t s → Tf N M l (nm d) t s.A s.H) := fun w0 w1 gT t s hG => hG.facts hgr hac hDH.out (by omega)
    rw [Int.toNat_natCast, hdN] at hgo
    rw [hdN]
    clear h hd hZ h0 hmc hpe hc0 hdn hdu hac hl4 hdN hn0 hn60 hgr hZb
    have hNN : ((N : Int) != (N : Int)) = false := by simp
    go_enter Tryd.func3, Tryd.ntmps3
    go_wp2_with (first
      | (go_at_call 4; refine hpa.mono ?_; rintro e w1 ⟨rfl, hB1⟩; clear hpa)
      | (go_at_call 5; refine (hgo.out w1 hB1).mono ?_; rintro e w2 ⟨⟨t, s, gT, rfl, hG⟩, hb2⟩; clear hgo; have hT : Hid (Tf N M l (nm d) t s.A s.H) := hTf.out _ _ _ _ _ hG; have hGc : Hid (∀ i, i < N → w2.cell? ⟨gT, i * 2, none⟩ = some (.int .i64 (s.A i)) ∧ w2.cell? ⟨gT, i * 2 + 1, none⟩ = some (.int .i64 (s.H i))) := hG.c; have hgT : Hid (gT < w2.heap.size) := hG.lt; have hB2 : Hid (Below w.heap.size w w2) := hB1.trans (hb2.mono hB1.size); clear hG hTf)
      | go_in)
    generalize s.A = A at *
    generalize s.H = H at *
    clear hb2 hB1
    have htb : Hid (0 ≤ t ∧ t ≤ 60000000000) := hT.out.tb
    go_loopg [46] N (fun gz iv wr => ∃ i : Nat, iv = .int .i64 i ∧ N - i ≤ gz ∧ Hid (i ≤ N) ∧ Hid (Below w2.heap.size w2 wr))
    case atStart => exact ⟨0, rfl, by omega, Nat.zero_le _, Below.refl _ _⟩
    case round =>
      obtain ⟨i, rfl, hgz, hiN, hbH⟩ := hrel
      by_cases hi : i < N
      · have hiH : Hid (i < N) := hi
        have hi2 : Hid (i ≤ 100000) := by have := hgH.out.n60; show _ ≤ _; omega
        have hiz : (i : Int) < (N : Int) := by omega
        have hiz0 : ¬ (i : Int) < 0 := by omega
        have hizg : ¬ (N : Int) ≤ (i : Int) := by omega
        obtain ⟨c0, c1⟩ := hGc.out i hi
        have z0 : wr.cell? ⟨gT, i * 2, none⟩ = some (.int .i64 (A i)) := (hbH.out.cell (p := ⟨gT, i * 2, none⟩) hgT.out).trans c0
        have z1 : wr.cell? ⟨gT, i * 2 + 1, none⟩ = some (.int .i64 (H i)) := (hbH.out.cell (p := ⟨gT, i * 2 + 1, none⟩) hgT.out).trans c1
        have hn := heap_alloc_new wr (.cells #[.int .i64 (A i), .int .i64 (H i)] 30)
        have hbA : Hid (Below w2.heap.size w2 (wr.alloc (.cells #[.int .i64 (A i), .int .i64 (H i)] 30))) := hbH.out.alloc hbH.out.size _
        have hcs : Hid (w2.heap.size ≤ wr.heap.size ∧ wr.heap.size < (wr.alloc (.cells #[.int .i64 (A i), .int .i64 (H i)] 30)).heap.size) := ⟨hbH.out.size, by simp⟩
        clear c0 c1 hi
        go_wp2
        generalize wr.alloc (.cells #[.int .i64 (A i), .int .i64 (H i)] 30) = wz at *
        generalize wr.heap.size = hc at *
        have k0 : wz.cell? ⟨hc, 0, none⟩ = some (.int .i64 (A i)) := (cell_of_row _ _ 0 _ _ _ hn).trans rfl
        have k1 : wz.cell? ⟨hc, 1, none⟩ = some (.int .i64 (H i)) := (cell_of_row _ _ 1 _ _ _ hn).trans rfl
        clear hn z0 z1 hbH
        obtain ⟨db, dof, rfl, d0⟩ := (hdb.out wz (hB2.out.trans (hbA.out.mono hB2.out.size))).at'' (i := i) (by rw [hdNH.out]; exact hiH.out)
        obtain ⟨r1, r2, r3, r4⟩ := hT.out.ran i hiH.out
        have hDi := hDH.out i hiH.out
        have hw1 : wrap64 (A i + nm d i) = A i + nm d i := by have := htb.out; unfold wrap64; omega
        have h1d : decide (A i < 0) = false := decide_eq_false (by omega)
        have h2d : decide (t < A i + nm d i) = false := decide_eq_false (by omega)
        have h3d : decide (H i < 0) = false := decide_eq_false (by omega)
        have h4d : decide ((M : Int) ≤ H i) = false := decide_eq_false (by omega)
        have hk0 : Hid (wz.cell? ⟨hc, 0, none⟩ = some (.int .i64 (A i)) ∧ wz.cell? ⟨hc, 1, none⟩ = some (.int .i64 (H i)) ∧ wz.cell? ⟨db, dof + i, none⟩ = some (.int .i64 (nm d i))) := ⟨k0, k1, d0⟩
        clear r1 r2 r3 r4 hDi
        go_quiet (fail)
        clear k0 k1 d0 hw1 h1d h2d h3d h4d
        go_wp2
        have hbq : Hid (Below w2.heap.size w2 (wz.drewN nq)) := hbA.out.trans ⟨rfl, rfl, rfl, Nat.le_refl _, fun _ _ => rfl⟩
        have hkq : Hid ((wz.drewN nq).cell? ⟨hc, 0, none⟩ = some (.int .i64 (A i)) ∧ (wz.drewN nq).cell? ⟨hc, 1, none⟩ = some (.int .i64 (H i)) ∧ (wz.drewN nq).cell? ⟨db, dof + i, none⟩ = some (.int .i64 (nm d i))) := hk0.out
        have hcq : Hid (hc < (wz.drewN nq).heap.size) := hcs.out.2
        clear hk0 hbA
        generalize wz.drewN nq = wq at *
        have hdbq : Hid (∀ j, j < N → wq.cell? ⟨db, dof + j, none⟩ = some (.int .i64 (nm d j)) ∧ db < wq.heap.size) := fun j hj => by
          rcases hdb.out wq (hB2.out.trans (hbq.out.mono hB2.out.size)) with h0 | ⟨b, o, e, hA⟩
          · exfalso; have := hdNH.out; omega
          · cases e
            exact ⟨hA.c j (by have := hdNH.out; omega), hA.lt⟩
        go_loopg [80] i (fun gz2 kv wr => ∃ k : Nat, kv = .int .i64 k ∧ i - k ≤ gz2 ∧ Hid (k ≤ i) ∧ Hid (Below wq.heap.size wq wr))
        case atStart => exact ⟨0, rfl, by omega, Nat.zero_le _, Below.refl _ _⟩
        case round =>
          rename World => wr
          obtain ⟨k, rfl, hgz2, hki, hbr⟩ := hrel
          by_cases hk : k < i
          · have hkiH : Hid (k < i) := hk
            have hkN : Hid (k < N) := by have := hiH.out; show _ < _; omega
            have hk2 : Hid (k ≤ 100000) := by have := hi2.out; show _ ≤ _; omega
            have hkz : (k : Int) < (i : Int) := by omega
            have hkz0 : ¬ (k : Int) < 0 := by omega
            have hkzg : ¬ (i : Int) ≤ (k : Int) := by omega
            have hkN1 : (k : Int) < (N : Int) := by have := hkN.out; omega
            have hkN2 : ¬ (N : Int) ≤ (k : Int) := by have := hkN.out; omega
            obtain ⟨c0, c1⟩ := hGc.out k hkN.out
            have hb2r : Below w2.heap.size w2 wr := hbq.out.trans (hbr.out.mono hbq.out.size)
            have z0 : wr.cell? ⟨gT, k * 2, none⟩ = some (.int .i64 (A k)) := (hb2r.cell (p := ⟨gT, k * 2, none⟩) hgT.out).trans c0
            have z1 : wr.cell? ⟨gT, k * 2 + 1, none⟩ = some (.int .i64 (H k)) := (hb2r.cell (p := ⟨gT, k * 2 + 1, none⟩) hgT.out).trans c1
            have hn := heap_alloc_new wr (.cells #[.int .i64 (A k), .int .i64 (H k)] 30)
            have hbq2 : Hid (Below wq.heap.size wq (wr.alloc (.cells #[.int .i64 (A k), .int .i64 (H k)] 30))) := hbr.out.alloc hbr.out.size _
            clear c0 c1 hk hb2r
            go_wp2
            generalize wr.alloc (.cells #[.int .i64 (A k), .int .i64 (H k)] 30) = wy at *
            generalize wr.heap.size = hy at *
            have q0 : wy.cell? ⟨hy, 0, none⟩ = some (.int .i64 (A k)) := (cell_of_row _ _ 0 _ _ _ hn).trans rfl
            have q1 : wy.cell? ⟨hy, 1, none⟩ = some (.int .i64 (H k)) := (cell_of_row _ _ 1 _ _ _ hn).trans rfl
            have q2 : wy.cell? ⟨hc, 0, none⟩ = some (.int .i64 (A i)) := (hbq2.out.cell (p := ⟨hc, 0, none⟩) hcq.out).trans hkq.out.1
            have q3 : wy.cell? ⟨hc, 1, none⟩ = some (.int .i64 (H i)) := (hbq2.out.cell (p := ⟨hc, 1, none⟩) hcq.out).trans hkq.out.2.1
            have q4 : wy.cell? ⟨db, dof + i, none⟩ = some (.int .i64 (nm d i)) := (hbq2.out.cell (p := ⟨db, dof + i, none⟩) (hdbq.out i hiH.out).2).trans (hdbq.out i hiH.out).1
            have q5 : wy.cell? ⟨db, dof + k, none⟩ = some (.int .i64 (nm d k)) := (hbq2.out.cell (p := ⟨db, dof + k, none⟩) (hdbq.out k hkN.out).2).trans (hdbq.out k hkN.out).1
            clear hn z0 z1 hbr
            obtain ⟨r1, r2, r3, r4⟩ := hT.out.ran i hiH.out
            obtain ⟨r5, r6, r7, r8⟩ := hT.out.ran k hkN.out
            have hDi := hDH.out i hiH.out
            have hDk := hDH.out k hkN.out
            have hw1 : wrap64 (A i + nm d i) = A i + nm d i := by have := htb.out; unfold wrap64; omega
            have hw2 : wrap64 (A k + nm d k) = A k + nm d k := by have := htb.out; unfold wrap64; omega
            have hap := hT.out.ap i k hiH.out hkN.out (by have := hkiH.out; omega)
            clear r1 r2 r3 r4 r5 r6 r7 r8 hDi hDk
            by_cases hH : H i = H k
            · have hHd : (H i == H k) = true := by simpa using hH
              by_cases h5 : A i < A k + nm d k
              · have h5d : decide (A i < A k + nm d k) = true := decide_eq_true h5
                have h6d : decide (A k < A i + nm d i) = false := decide_eq_false (by have := hap hH; omega)
                clear hH h5 hap
                go_quiet (fail)
                clear q0 q1 q2 q3 q4 q5
                go_wp2
                go_roundg (i - (k + 1))
                case measure => have := hkiH.out; omega
                case rel => exact ⟨k + 1, by first | exact int_wsucc hk2.out | exact int_succ k, Nat.le_refl _, hkiH.out, hbq2.out.trans ⟨rfl, rfl, rfl, Nat.le_refl _, fun _ _ => rfl⟩⟩
              · have h5d : decide (A i < A k + nm d k) = false := decide_eq_false h5
                clear hH h5 hap
                go_quiet (fail)
                clear q0 q1 q2 q3 q4 q5
                go_wp2
                go_roundg (i - (k + 1))
                case measure => have := hkiH.out; omega
                case rel => exact ⟨k + 1, by first | exact int_wsucc hk2.out | exact int_succ k, Nat.le_refl _, hkiH.out, hbq2.out.trans ⟨rfl, rfl, rfl, Nat.le_refl _, fun _ _ => rfl⟩⟩
            · have hHd : (H i == H k) = false := by simpa using hH
              clear hH hap
              go_quiet (fail)
              clear q0 q1 q2 q3 q4 q5
              go_wp2
              go_roundg (i - (k + 1))
              case measure => have := hkiH.out; omega
              case rel => exact ⟨k + 1, by first | exact int_wsucc hk2.out | exact int_succ k, Nat.le_refl _, hkiH.out, hbq2.out.trans ⟨rfl, rfl, rfl, Nat.le_refl _, fun _ _ => rfl⟩⟩
          · have hkz : ¬ (k : Int) < (i : Int) := by omega
            have hbr2 : Hid (Below w2.heap.size w2 wr) := hbq.out.trans (hbr.out.mono hbq.out.size)
            clear hkq hcq hdbq hbq hbr
            go_wp2
            go_roundg (N - (i + 1))
            case measure => have := hiH.out; omega
            case rel => exact ⟨i + 1, by first | exact int_wsucc hi2.out | exact int_succ i, Nat.le_refl _, hiH.out, hbr2⟩
      · have hiz : ¬ (i : Int) < (N : Int) := by omega
        have e : i = N := by have := hiN.out; omega
        subst e
        clear hiz hgz
        go_wp2
        go_loopg [118] l.length (fun gz2 kv wq => ∃ k : Nat, kv = .int .i64 k ∧ l.length - k ≤ gz2 ∧ Hid (k ≤ l.length) ∧ Hid (Below w2.heap.size w2 wq))
        case atStart => exact ⟨0, rfl, by omega, Nat.zero_le _, hbH⟩
        case round =>
          rename World => wq
          obtain ⟨k, rfl, hgz2, hkl, hbq⟩ := hrel
          by_cases hk : k < l.length
          · have hkH : Hid (k < l.length) := hk
            have hk2 : Hid (k ≤ 100000) := by have := hlH.out; show _ ≤ _; omega
            have hkz : (k : Int) < (l.length : Int) := by omega
            have hok := hgH.out.ok _ (ed_mem hk)
            obtain ⟨F, hF⟩ : ∃ F : Nat, (ed l k).f = (F : Int) := ⟨(ed l k).f.toNat, by omega⟩
            obtain ⟨T, hT2⟩ : ∃ T : Nat, (ed l k).t = (T : Int) := ⟨(ed l k).t.toNat, by omega⟩
            have hFn : Hid (F < i) := by show _ < _; omega
            have hTn : Hid (T < i) := by show _ < _; omega
            have heB : Hid (eB l F T = true) := eB_true.2 ⟨_, ed_mem hk, hF, hT2⟩
            rcases hEb.out wq (hB2.out.trans (hbq.out.mono hB2.out.size)) with hh0 | ⟨eb, eo, rfl, hAr⟩
            · omega
            have z0 := hAr.cf k hk
            have z1 := hAr.ct k hk
            rw [hF] at z0
            rw [hT2] at z1
            have hn := heap_alloc_new wq (.cells #[.int .i64 (F : Int), .int .i64 (T : Int)] 32)
            have hb3 : Hid (Below w2.heap.size w2 (wq.alloc (.cells #[.int .i64 (F : Int), .int .i64 (T : Int)] 32))) := hbq.out.alloc hbq.out.size _
            clear hAr hok hF hT2 hk hbq
            go_wp2
            generalize wq.alloc (.cells #[.int .i64 (F : Int), .int .i64 (T : Int)] 32) = wy at *
            generalize wq.heap.size = hy at *
            have q0 : wy.cell? ⟨hy, 0, none⟩ = some (.int .i64 (F : Int)) := (cell_of_row _ _ 0 _ _ _ hn).trans rfl
            have q1 : wy.cell? ⟨hy, 1, none⟩ = some (.int .i64 (T : Int)) := (cell_of_row _ _ 1 _ _ _ hn).trans rfl
            clear hn z0 z1
            have q2 : wy.cell? ⟨gT, F * 2, none⟩ = some (.int .i64 (A F)) := (hb3.out.cell (p := ⟨gT, F * 2, none⟩) hgT.out).trans (hGc.out F hFn.out).1
            have q3 : wy.cell? ⟨gT, T * 2, none⟩ = some (.int .i64 (A T)) := (hb3.out.cell (p := ⟨gT, T * 2, none⟩) hgT.out).trans (hGc.out T hTn.out).1
            obtain ⟨db, dof, rfl, q4⟩ := (hdb.out wy (hB2.out.trans (hb3.out.mono hB2.out.size))).at'' (i := F) (by rw [hdNH.out]; exact hFn.out)
            obtain ⟨r1, r2, r3, r4⟩ := hT.out.ran F hFn.out
            have hDF := hDH.out F hFn.out
            have hw1 : wrap64 (A F + nm d F) = A F + nm d F := by have := htb.out; unfold wrap64; omega
            have hed := hT.out.ed F T hFn.out hTn.out heB.out
            have h1d : decide (A T < A F + nm d F) = false := decide_eq_false (by omega)
            have f1 : (F : Int) < (i : Int) := by have := hFn.out; omega
            have f2 : ¬ (F : Int) < 0 := by omega
            have f3 : ¬ (i : Int) ≤ (F : Int) := by have := hFn.out; omega
            have g1 : (T : Int) < (i : Int) := by have := hTn.out; omega
            have g2 : ¬ (T : Int) < 0 := by omega
            have g3 : ¬ (i : Int) ≤ (T : Int) := by have := hTn.out; omega
            clear r1 r2 r3 r4 hDF hed
            go_quiet (fail)
            clear q0 q1 q2 q3 q4
            go_wp2
            go_roundg (l.length - (k + 1))
            case measure => have := hkH.out; omega
            case rel => exact ⟨k + 1, by first | exact int_wsucc hk2.out | exact int_succ k, Nat.le_refl _, hkH.out, hb3.out.trans ⟨rfl, rfl, rfl, Nat.le_refl _, fun _ _ => rfl⟩⟩
          · have hkz : ¬ (k : Int) < (l.length : Int) := by omega
            have hbF : Hid (Below w.heap.size w wq) := hB2.out.trans (hbq.out.mono hB2.out.size)
            clear hgz2 hbq
            go_wp2
            go_ret
            exact ⟨by first | rfl | simp, hbF.out⟩
  · have hgo : Hid (∀ w1, Below w.heap.size w w1 → _) := fun w1 hb => graph_bad (cap := cap) (cd := cd) (hEb.out w1 hb) (hZb.out w1 hb) (hdb.out w1 hb) h0
    have hc1 : (gc m n l d != 0) = true := by simpa using h0
    generalize gc m n l d = y at *
    clear h0 h hd hZ hZb hEb hdb
    go_enter Tryd.func3, Tryd.ntmps3
    go_wp2_with (first
      | (go_at_call 4; refine hpa.mono ?_; rintro e w1 ⟨rfl, hB1⟩; clear hpa)
      | (go_at_call 5; refine (hgo.out w1 hB1).mono ?_; rintro e w2 ⟨rfl, hb2⟩; clear hgo; have hB2 : Below w.heap.size w w2 := hB1.trans (hb2.mono hB1.size))
      | go_in)
    go_ret
    exact ⟨by first | rfl | simp, hB2⟩
end Go.Proofs.YthfpdbogbmccjabDoor
