/- QueueRaised, walked. -/
import Derived.Test.YthkhlgannimebaaQdf
import Derived.Test.YthkhlgannimebaaQli
import Derived.Test.YthkhlgannimebaaQua
import Derived.Test.YthkhlgannimebaaQss
namespace Go.Proofs.Ythkhlgannimebaa
open Go.RowKit Go.Maps Go.Sort Qum Qrm
set_option linter.unusedSectionVars false

theorem raiE_zero {S : Qu} {id p : Int} (h : raiE S id p = 0) : hasId S.L id = true ∧ ¬ p < priOf S.L id ∧ raiS S id p = ⟨S.turns, S.L.map (Qum.raised id p)⟩ := by
  have h' := h
  unfold raiE at h
  split at h
  · split at h
    · cases h
    · rename_i h1 h2
      exact ⟨h1, h2, by simp [raiS, h']⟩
  · cases h
theorem hasId_srt (L : List Th) (id : Int) : hasId (srt L) id = hasId L id := hasId_perm (srt_perm L) id
theorem hasId_raised (L : List Th) (id p : Int) : hasId (L.map (Qum.raised id p)) id = hasId L id := by
  unfold hasId
  rw [List.any_map]
  congr 1
  funext x
  simp [raised_i]

theorem row_prio {w : World} {F : List Th} {n g c k : Nat} {p : Int} (hF : F.length = n) (h : Rrow w (.slice (some ⟨g, 0, none⟩) n c) n (flatI F)) (hk : k < F.length) (e : (th F k).p = p) : w.cell? ⟨g, k * 2, none⟩ = some (.int .i64 p) := by
  subst hF
  rw [← e]
  exact (h.items hk).1
theorem ga_ne {a b c d ga gb w0 : Nat} (h1 : a < w0) (h2 : w0 ≤ b) (h3 : b ≤ ga) (h4 : ga < c) (h5 : c ≤ d) (h6 : d ≤ gb) : a ≠ ga ∧ ga ≠ gb ∧ w0 ≤ ga ∧ w0 ≤ gb := by omega

set_option maxHeartbeats 2000000 in
set_option maxRecDepth 100000 in
theorem queueRaised_walk (w : World) (q : Option Addr) (l : List Th) (cap : Nat) (id prio : Int) (h0 : Its w q l ∧ l.length ≤ cap) (wid : (Lit.int .i64 id).wf = true) (_wp : (Lit.int .i64 prio).wf = true) :
    Calls Try.prog 7 #[.slice q l.length cap, .int .i64 id, .int .i64 prio] w fun e w' => e = .returned (.bool true) ∧ Below w.heap.size w w' := by
  obtain ⟨h, hlc⟩ := h0
  obtain ⟨m, hm1, hm2, hm3⟩ : ∃ m : Nat, m ≤ l.length ∧ m ≤ 100 ∧ (m = l.length ∨ m = 100) := by
    by_cases hl : l.length ≤ 100
    · exact ⟨l.length, Nat.le_refl _, hl, Or.inl rfl⟩
    · exact ⟨100, by omega, Nat.le_refl _, Or.inr rfl⟩
  have hwf : Hid (∀ x ∈ l, (Lit.int .i64 x.i).wf = true) := its_wf h
  have hmin : min (l.length : Int) 100 = (m : Int) := by omega
  have hmc : (m : Int) ≤ (cap : Int) := by omega
  have hmcN : m ≤ cap := by omega
  have hm0 : (0 : Int) ≤ (m : Int) := by omega
  have hcb : (w.alloc (.cells #[.int .i64 id] 3)).cell? ⟨w.heap.size, 0, none⟩ = some (.int .i64 id) := (cell_of_row _ _ 0 _ _ _ (heap_alloc_new w (.cells #[.int .i64 id] 3))).trans rfl
  have hI := h.below ((Below.refl w.heap.size w).alloc (Nat.le_refl _) (.cells #[.int .i64 id] 3)) (Nat.le_refl _)
  have hb0 : Hid (Below w.heap.size w (w.alloc (.cells #[.int .i64 id] 3))) := (Below.refl _ _).alloc (Nat.le_refl _) _
  have hs0 : Hid (w.heap.size < (w.alloc (.cells #[.int .i64 id] 3)).heap.size) := by show _ < _; simp
  have hm1H : Hid (m ≤ l.length) := hm1
  have hm2H : Hid (m ≤ 100) := hm2
  clear h hm3 hlc hm1 hm2
  go_enter Try.func7, Try.ntmps7
  go_wp2_with (first
    | (go_at_call 13; refine (queues_any _).mono ?_; rintro e w1 ⟨rfl, hb1⟩)
    | (go_at_call 15; refine (new_any _).mono ?_; rintro e w2 ⟨rfl, hQ2, hb2⟩)
    | go_in)
  have hsw := hb1.size
  have hbW : Below (w.alloc (.cells #[.int .i64 id] 3)).heap.size (w.alloc (.cells #[.int .i64 id] 3)) w2 := hb1.trans (hb2.mono hsw)
  clear hb1 hb2 hmin hmc hm0 hmcN
  generalize (w.alloc (.cells #[.int .i64 id] 3)) = w0 at *
  generalize w1.heap.size + 1 = qb at *
  obtain ⟨B, hBe⟩ : ∃ B, B = w1.heap.size := ⟨_, rfl⟩
  obtain ⟨bm, hbm⟩ : ∃ bm, bm = w1.heap.size := ⟨_, rfl⟩
  have hQ3 : Que B w2 qb bm ⟨0, []⟩ := by rw [hBe, hbm]; exact hQ2
  have hdB : Hid (w0.heap.size ≤ B) := by rw [hBe]; exact hsw
  clear hBe hbm hQ2 hsw
  go_loopw [24] (fun iv wr => ∃ (j : Nat) (S : Qu), iv = .int .i64 j ∧ j ≤ m ∧ Ok j S ∧ Que B wr qb bm S ∧ Below w0.heap.size w0 wr)
    (fun iv _ => m - (intOf iv).toNat)
  case atStart => exact ⟨0, _, rfl, Nat.zero_le _, Ok.new 0, hQ3, hbW⟩
  case round =>
    clear hQ3 hbW
    obtain ⟨j, S, rfl, hjm, hO, hQ, hbl⟩ := hrel
    by_cases hj : j < m
    · have hjl : j < l.length := by have := hm1H.out; omega
      rcases hI.2 with h0 | ⟨b, o, rfl, hA⟩
      · omega
      have hAr := hA.below hbl hA.lt
      have z0 := hAr.cp j hjl
      have z1 := hAr.ci j hjl
      have wi := hAr.wi j hjl
      have hji : (j : Int) < (m : Int) := by omega
      have hj2 : Hid (j ≤ 100000) := by have := hm2H.out; show _ ≤ _; omega
      have hput := put_any (p := (th l j).p) (id := (th l j).i) (hQ.below ((Below.refl wr.heap.size wr).alloc (Nat.le_refl _) (.cells #[.int .i64 (th l j).p, .int .i64 (th l j).i] 30))) hO (by have := hm2H.out; omega) wi
      have hO3 : Hid (Ok (j + 1) (putS S (th l j).p (th l j).i)) := hO.put _ _
      have hbq : Hid (Below w0.heap.size w0 (wr.alloc (.cells #[.int .i64 (th l j).p, .int .i64 (th l j).i] 30))) := hbl.alloc hbl.size _
      generalize putS S (th l j).p (th l j).i = S3 at *
      generalize putE S (th l j).i = ev at *
      generalize th l j = x at *
      clear hA hAr hQ hbl hI hO
      go_wp2_with (first
        | (go_at_call 16; refine hput.mono ?_; rintro e w3 ⟨rfl, hQ3, hF3⟩; clear hput)
        | go_in)
      refine ⟨⟨j + 1, S3, ?_, hj, hO3.out, hQ3, hbq.out.trans (hF3.below.mono hdB.out)⟩, ?_⟩
      · first | exact int_succ j | exact int_wsucc hj2.out
      · first | exact meas_1 hj | exact meas_w hj hj2.out
    · have hji : ¬ (j : Int) < (m : Int) := by omega
      clear hI
      have hlist := list_any hQ hO
      have hlen := hO.len
      have hOH : Hid (Ok j S) := hO
      have hcw : ∀ w3, Below w0.heap.size w0 w3 → w3.cell? ⟨w.heap.size, 0, none⟩ = some (.int .i64 id) := fun w3 hb => (hb.cell (p := ⟨w.heap.size, 0, none⟩) hs0.out).trans hcb
      go_wp2_with fail
      refine hlist.mono ?_
      rintro e w3 ⟨pa, ca, rfl, hra, hb3⟩
      have hQ3 := hQ.below hb3
      have hB3 : Below w0.heap.size w0 w3 := hbl.trans (hb3.mono hbl.size)
      have hrai := raise_any (id := id) (p := prio) hQ3 hO wid
      have ccell := hcw w3 hB3
      have hrtag : Hid (∀ k, Value.ownBlock (.slice pa S.L.length ca) = some k → tagd w3 k = false ∧ k ≠ bm ∧ wr.heap.size ≤ k) := fun k hk => by
        refine ⟨?_, fun e => ?_, (hra.lt k hk).1⟩
        · rcases hra.2 with ⟨hv, _⟩ | ⟨g, c', cur, hv, _, hg, _⟩
          · rw [hv] at hk; simp [Value.ownBlock] at hk
          · rw [hv] at hk
            obtain rfl : g = k := by simpa [Value.ownBlock] using hk
            simp [tagd, hg]
        · have := (hra.lt k hk).1
          have := hQ.ltm
          omega
      have hRa : Hid (Rrow w3 (.slice pa S.L.length ca) S.L.length (flatI (srt S.L))) := Rrow_of_owns hra
      have hkeep : Hid (∀ w4, Fq B (some bm) w3 w4 → Rrow w4 (.slice pa S.L.length ca) S.L.length (flatI (srt S.L))) := fun w4 hF => hRa.out.kept fun k hk => hF.oth k (hRa.out.lt k hk) (fun e => (hrtag.out k hk).2.1 (by cases e; rfl)) (hrtag.out k hk).1
      have hsr : Hid (w0.heap.size ≤ wr.heap.size) := hbl.size
      clear hlist hra hb3 hQ hcb
      by_cases he : raiE S id prio = 0
      · obtain ⟨hyes, hpr, hS⟩ := raiE_zero he
        have hO4 : Ok j (raiS S id prio) := hO.rai id prio
        rw [he, hS] at hrai
        rw [hS] at hO4
        obtain ⟨ia, hia⟩ := isAt_ex (F := srt S.L) (id := id) (by rw [hasId_srt]; exact hyes)
        obtain ⟨kb, hkb⟩ := isAt_ex (F := srt (S.L.map (Qum.raised id prio))) (id := id) (by rw [hasId_srt, hasId_raised]; exact hyes)
        obtain ⟨hki, hpk⟩ := raised_le hO.ids hO.tne hpr hia hkb
        have hidsA : Hid ((srt S.L).Pairwise fun x y => x.i ≠ y.i) := uniq_srt hO.ids
        have hidsB : Hid ((srt (S.L.map (Qum.raised id prio))).Pairwise fun x y => x.i ≠ y.i) := uniq_srt hO4.ids
        have hers : Hid ((srt S.L).eraseIdx ia = (srt (S.L.map (Qum.raised id prio))).eraseIdx kb) := by
          show _ = _
          rw [← erase_id hidsA.out hia.1 hia.2.1, ← erase_id hidsB.out hkb.1 hkb.2.1, drop_srt id hO.tne, drop_srt id hO4.tne, drop_raised]
        have hlA : Hid ((srt S.L).length = S.L.length) := srt_len _
        have hlB : Hid ((srt (S.L.map (Qum.raised id prio))).length = S.L.length) := by show _ = _; rw [srt_len]; simp
        have hposH : Hid (0 < S.L.length) := by have := hkb.1; have := hlB.out; show _ < _; omega
        have hleH : Hid (((srt S.L).eraseIdx ia).length = S.L.length - 1) := by show _ = _; rw [List.length_eraseIdx_of_lt hia.1, hlA.out]
        have hkl : (kb : Int) < (S.L.length : Int) := by have := hkb.1; have := hlB.out; omega
        have hkiI : ¬ (ia : Int) < (kb : Int) := by omega
        have hia0 : ¬ (ia : Int) < 0 := by omega
        have hkb0 : ¬ (kb : Int) < 0 := by omega
        have hiaH : Hid (IsAt (srt S.L) id ia) := hia
        have hkbH : Hid (IsAt (srt (S.L.map (Qum.raised id prio))) id kb) := hkb
        have hpkH : Hid ((th (srt (S.L.map (Qum.raised id prio))) kb).p = prio) := hpk
        clear hia hkb hpk he hS hyes hpr hO hki
        go_wp2_with (first
          | (go_at_call 18; refine hrai.mono ?_; rintro e w4 ⟨rfl, hQ4, hF4⟩; have hlist4 := list_any hQ4 hO4; have hra4 := hkeep.out w4 hF4; have hB4 : Below w0.heap.size w0 w4 := hB3.trans (hF4.below.mono hdB.out); rw [List.length_map] at hlist4; clear hrai)
          | (go_at_call 19; refine hlist4.mono ?_; rintro e w5 ⟨pb, c5, rfl, hrb, hb5⟩; have hRa5 := hra4.below hb5; have hB5 : Below w0.heap.size w0 w5 := hB4.trans (hb5.mono hB4.size); have hc5 := hcw w5 hB5; have hixa := indexf_any hlA.out hRa5 (by omega) hc5 hiaH.out; clear hlist4)
          | (go_at_call 22; first
              | (refine hixa.mono ?_; rintro e w6 ⟨rfl, hb6⟩; have hB6 : Below w0.heap.size w0 w6 := hB5.trans (hb6.mono hB5.size); have hRb6 := (Rrow_of_owns hrb).below hb6; have hixb := indexf_any hlB.out hRb6 (by omega) (hcw w6 hB6) hkbH.out; have hRa6 := hRa5.below hb6; clear hixa)
              | (refine hixb.mono ?_; rintro e w7 ⟨rfl, hb7⟩; have hB7 : Below w0.heap.size w0 w7 := hB6.trans (hb7.mono hB6.size); have hRb7 := hRb6.below hb7; have hRa7 := hRa6.below hb7; clear hixb; obtain ⟨gb, rfl, _⟩ := hRb7.at_ hposH.out; obtain ⟨ga, rfl, _⟩ := hRa7.at_ hposH.out; have yk := row_prio hlB.out hRb7 hkbH.out.1 hpkH.out; have hga : Hid (w.heap.size ≠ ga ∧ ga ≠ gb ∧ w0.heap.size ≤ ga ∧ w0.heap.size ≤ gb) := ga_ne hs0.out hsr.out (hrtag.out ga rfl).2.2 (hRa.out.lt ga rfl) hF4.size (hrb.lt gb rfl).1; have hdela := delf_any hlA.out hRa7 (by omega) (hcw w7 hB7) hga.out.1 hiaH.out hidsA.out))
          | (go_at_call 23; first
              | (refine hdela.mono ?_; rintro e w8 ⟨rfl, hRa8, hK8⟩; have hB8 : Below w0.heap.size w0 w8 := hK8.below hB7 hga.out.2.2.1 hB7.size; have hRb8 := hRb7.kept (w' := w8) (fun k hk => hK8.block k (hRb7.lt k hk) (fun e => hga.out.2.1 (by rw [← e]; have hk' : some gb = some k := hk; cases hk'; rfl))); have hdelb := delf_any hlB.out hRb8 (by omega) (hcw w8 hB8) (by have := hga.out; have := hs0.out; omega) hkbH.out hidsB.out; clear hdela)
              | (refine hdelb.mono ?_; rintro e w9 ⟨rfl, hRb9, hK9⟩; have hB9 : Below w0.heap.size w0 w9 := hK9.below hB8 hga.out.2.2.2 hB8.size; have hRa9 := hRa8.kept (w' := w9) (fun k hk => hK9.block k (hRa8.lt k hk) (fun e => hga.out.2.1 (by have hk' : some ga = some k := hk; cases hk'; exact e))); have hRb9' : Rrow w9 (.slice (some ⟨gb, 0, none⟩) (S.L.length - 1) c5) (S.L.length - 1) (flatI ((srt S.L).eraseIdx ia)) := by rw [hers.out]; exact hRb9))
          | (go_at_call 11; refine (equal_rr hleH.out hRa9 hRb9' (by omega)).mono ?_; rintro e w10 ⟨rfl, hb10⟩)
          | go_in)
        go_ret
        have hB10 : Below w0.heap.size w0 w10 := hB9.trans (hb10.mono hB9.size)
        exact ⟨rfl, hb0.out.trans (hB10.mono hb0.out.size)⟩
      · have hS : raiS S id prio = S := by simp [raiS, he]
        rw [hS] at hrai
        clear hS
        have hne : raiE S id prio ≠ 0 := he
        generalize raiE S id prio = ev at *
        go_wp2_with (first
          | (go_at_call 18; refine hrai.mono ?_; rintro e w4 ⟨rfl, hQ4, hF4⟩; have hlist4 := list_any hQ4 hOH.out; have hra4 := hkeep.out w4 hF4; have hB4 : Below w0.heap.size w0 w4 := hB3.trans (hF4.below.mono hdB.out); clear hrai)
          | (go_at_call 19; refine hlist4.mono ?_; rintro e w5 ⟨p5, c5, rfl, hr5, hb5⟩; have heq := equal_rr (srt_len S.L) (hra4.below hb5) (Rrow_of_owns hr5) (by omega); clear hlist4)
          | (go_at_call 11; refine heq.mono ?_; rintro e w6 ⟨rfl, hb6⟩; clear heq)
          | go_in)
        go_ret
        have hB5 : Below w0.heap.size w0 w5 := hB4.trans (hb5.mono hB4.size)
        have hB6 : Below w0.heap.size w0 w6 := hB5.trans (hb6.mono hB5.size)
        exact ⟨rfl, hb0.out.trans (hB6.mono hb0.out.size)⟩
end Go.Proofs.Ythkhlgannimebaa
