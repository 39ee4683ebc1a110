/- The reference's queue as one thing: what it keeps, what its calls leave, its Put in one, rows that are equal. -/
import Derived.Test.YthkhlgannimebaaQr4
namespace Go.Proofs.Ythkhlgannimebaa
open Go.RowKit Go.Maps Go.Sort Qum
set_option linter.unusedSectionVars false

/-- A block of the reference's make. -/
def rtag (w : World) (k : Nat) : Bool := match w.heap[k]? with
  | some (.cells _ t _) => t == 30 || t == 28
  | _ => false

/-- Of what was there nothing has turned but blocks of the reference's make, none of them below B. -/
structure Fr (B : Nat) (w w' : World) : Prop where
  os : w'.os = w.os
  tape : w'.tape = w.tape
  output : w'.output = w.output
  size : w.heap.size ≤ w'.heap.size
  low : ∀ k, k < B → w'.heap[k]? = w.heap[k]?
  oth : ∀ k, k < w.heap.size → rtag w k = false → w'.heap[k]? = w.heap[k]?

theorem rtag_of {w w' : World} {k : Nat} (h : w'.heap[k]? = w.heap[k]?) : rtag w' k = rtag w k := by unfold rtag; rw [h]
theorem Fr.refl (B : Nat) (w : World) : Fr B w w := ⟨rfl, rfl, rfl, Nat.le_refl _, fun _ _ => rfl, fun _ _ _ => rfl⟩
theorem Fr.trans {B : Nat} {a b c : World} (h : Fr B a b) (k : Fr B b c) : Fr B a c :=
  ⟨k.os.trans h.os, k.tape.trans h.tape, k.output.trans h.output, Nat.le_trans h.size k.size, fun i hi => (k.low i hi).trans (h.low i hi), fun i hi h2 => (k.oth i (Nat.lt_of_lt_of_le hi h.size) ((rtag_of (h.oth i hi h2)).trans h2)).trans (h.oth i hi h2)⟩
theorem Fr.below {B : Nat} {w w' : World} (h : Fr B w w') : Below B w w' := ⟨h.os, h.tape, h.output, h.size, h.low⟩
theorem Fr.of_below {B : Nat} {w w' : World} (h : Below w.heap.size w w') (hB : B ≤ w.heap.size) : Fr B w w' :=
  ⟨h.os, h.tape, h.output, h.size, fun k hk => h.block k (by omega), fun k hk _ => h.block k hk⟩

/-- The reference's queue, in the block mb; all that is its own lies from B on. -/
def Rq (B : Nat) (w : World) (mb : Nat) (L : List Th) : Prop := ∃ p cap, Rfq w mb (.slice p L.length cap) L ∧ B ≤ mb ∧ ∀ k, Value.ownBlock (.slice p L.length cap) = some k → B ≤ k

theorem Rq.lt {B : Nat} {w : World} {mb : Nat} {L : List Th} (h : Rq B w mb L) : mb < w.heap.size := by obtain ⟨p, cap, h1, _⟩ := h; exact h1.lt
theorem Rq.base {B : Nat} {w : World} {mb : Nat} {L : List Th} (h : Rq B w mb L) : B ≤ w.heap.size := by have := h.lt; obtain ⟨p, cap, _, h2, _⟩ := h; omega
theorem Rfq.rtag {w : World} {mb : Nat} {v : Value} {L : List Th} (h : Rfq w mb v L) : rtag w mb = true ∧ ∀ k, v.ownBlock = some k → Ythkhlgannimebaa.rtag w k = true := by
  refine ⟨by simp [Ythkhlgannimebaa.rtag, h.blk], fun k hk => ?_⟩
  rcases h.row.2 with ⟨rfl, _⟩ | ⟨g, cap, cur, rfl, hg, _⟩
  · simp [Value.ownBlock] at hk
  · obtain rfl : g = k := by simpa [Value.ownBlock] using hk
    simp [Ythkhlgannimebaa.rtag, hg]
/-- What leaves all blocks of the reference's make leaves its queue. -/
theorem Rq.own {B : Nat} {w w' : World} {mb : Nat} {L : List Th} (h : Rq B w mb L) (hk : ∀ k, k < w.heap.size → rtag w k = true → w'.heap[k]? = w.heap[k]?) : Rq B w' mb L := by
  obtain ⟨p, cap, h1, h2, h3⟩ := h
  exact ⟨p, cap, ⟨(hk mb h1.lt h1.rtag.1).trans h1.blk, h1.row.kept fun k hk' => hk k (h1.row.lt k hk') (h1.rtag.2 k hk')⟩, h2, h3⟩
theorem Rq.below {B : Nat} {w w' : World} {mb : Nat} {L : List Th} (h : Rq B w mb L) (hb : Below w.heap.size w w') : Rq B w' mb L := h.own fun k hk _ => hb.block k hk
theorem Fr.of_kr {B : Nat} {w w' : World} {mb : Nat} {v : Value} {L : List Th} (h : Rfq w mb v L) (hk : Kr mb v.ownBlock w w') (h2 : B ≤ mb) (h3 : ∀ k, v.ownBlock = some k → B ≤ k) : Fr B w w' := by
  have hlt := h.lt
  refine ⟨hk.os, hk.tape, hk.output, hk.size, fun k hkB => hk.block k (by omega) (by omega) (fun e => by have := h3 k e.symm; omega), fun k hks hr => hk.block k hks (fun e => ?_) (fun e => ?_)⟩
  · subst e; rw [h.rtag.1] at hr; cases hr
  · rw [h.rtag.2 k e.symm] at hr; cases hr

theorem rput_any {B : Nat} {w : World} {mb k : Nat} {S : Qu} {pr id : Int} (h : Rq B w mb S.L) (hO : Ok k S) :
    Calls Try.prog 10 #[.pointer (some ⟨mb, 0, none⟩), .int .i64 pr, .int .i64 id] w fun e w' => e = .returned (.int .i64 (putE S id)) ∧ Rq B w' mb (putS S pr id).L ∧ Fr B w w' := by
  have hb := h.base
  have hl := hO.len
  have h' := h
  obtain ⟨p, cap, h1, h2, h3⟩ := h
  cases hh : hasId S.L id
  · by_cases h4 : 200 ≤ S.L.length
    · have e : putE S id = 7 := by simp [putE, hh, h4]
      have e2 : putS S pr id = S := by simp [putS, e]
      rw [e, e2]
      exact (rput_full h1 (by omega) hh).mono fun _ _ ⟨he, hbl⟩ => ⟨he, h'.below hbl, Fr.of_below hbl hb⟩
    · have e : putE S id = 0 := by simp [putE, hh, h4]
      have e2 : putS S pr id = ⟨S.turns + 1, S.L ++ [⟨pr, id, S.turns⟩]⟩ := by simp [putS, e]
      rw [e, e2]
      refine (rput_ok S.turns h1 (by omega) hh).mono fun _ _ ⟨he, p', c', r1, r2, r3⟩ => ⟨he, ⟨p', c', ?_, h2, ?_⟩, Fr.of_kr h1 r2 h2 h3⟩
      · simpa using r1
      · intro k hk
        simp only [List.length_append, List.length_cons, List.length_nil, Nat.zero_add] at hk
        rcases r3 with e | ⟨k', e, hk'⟩
        · exact h3 k (by rw [← e]; exact hk)
        · rw [e] at hk; cases hk; omega
  · have e : putE S id = 6 := by simp [putE, hh]
    have e2 : putS S pr id = S := by simp [putS, e]
    rw [e, e2]
    exact (rput_there h1 hl hh).mono fun _ _ ⟨he, hbl⟩ => ⟨he, h'.below hbl, Fr.of_below hbl hb⟩

theorem rrow_any {B : Nat} {w : World} {mb k : Nat} {S : Qu} (h : Rq B w mb S.L) (hO : Ok k S) :
    Calls Try.prog 12 #[.pointer (some ⟨mb, 0, none⟩)] w fun e w' => ∃ (p' : Option Addr) (cap' : Nat), e = .returned (.slice p' S.L.length cap') ∧ Rrow w' (.slice p' S.L.length cap') S.L.length (flatI (srt S.L)) ∧ Below w.heap.size w w' := by
  obtain ⟨p, cap, h1, h2, h3⟩ := h
  exact row_any h1 hO.len hO.tns

set_option maxHeartbeats 1000000 in
set_option maxRecDepth 100000 in
theorem equal_rr {w : World} {F : List Th} {n : Nat} {p1 p2 : Option Addr} {c1 c2 : Nat} (hF : F.length = n) (h1 : Rrow w (.slice p1 n c1) n (flatI F)) (h2 : Rrow w (.slice p2 n c2) n (flatI F)) (hlen : n ≤ 1000) :
    Calls Try.prog 11 #[.slice p1 n c1, .slice p2 n c2] w fun e w' => e = .returned (.bool true) ∧ Below w.heap.size w w' := by
  subst hF
  have hlen' : Hid (F.length ≤ 1000) := hlen
  have hnf := neqI
  clear hlen
  go_enter Try.func11, Try.ntmps11
  go_wp2
  go_loopw [13] (fun iv wr => ∃ j : Nat, iv = .int .i64 j ∧ j ≤ F.length ∧ Below w.heap.size w wr)
    (fun iv _ => F.length - (intOf iv).toNat)
  case atStart => exact ⟨0, rfl, Nat.zero_le _, Below.refl _ _⟩
  case round =>
    obtain ⟨j, rfl, hjl, hbl⟩ := hrel
    have r1 := h1.below hbl
    have r2 := h2.below hbl
    by_cases hj : j < F.length
    · obtain ⟨g, rfl, _⟩ := r1.at_ (by omega)
      obtain ⟨g2, rfl, _⟩ := r2.at_ (by omega)
      obtain ⟨z0, z1⟩ := r1.items hj
      obtain ⟨y0, y1⟩ := r2.items hj
      clear r1 r2 h1 h2
      generalize th F j = x at *
      have hji : (j : Int) < (F.length : Int) := by omega
      go_wp2
      go_quiet (fail)
      go_wp2
      have hj2 : j ≤ 100000 := Nat.le_trans hjl (Nat.le_trans hlen'.out (by decide))
      refine ⟨⟨j + 1, ?_, hj, drewN_below hbl nq⟩, ?_⟩
      · first | exact int_wsucc hj2 | exact int_succ j
      · first | exact meas_w hj hj2 | exact meas_1 hj
    · have hji : ¬ (j : Int) < (F.length : Int) := by omega
      clear r1 r2 h1 h2
      go_wp2
      go_ret
      exact ⟨rfl, hbl⟩
end Go.Proofs.Ythkhlgannimebaa
