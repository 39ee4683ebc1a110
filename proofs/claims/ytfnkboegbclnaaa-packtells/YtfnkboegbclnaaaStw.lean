/- The library's stable sort at a row of numbers, called: swapping ranges, rotating. -/
import Derived.Test.YtfnkboegbclnaaaStm
import Derived.Test.YtfnkboegbclnaaaKb
import Derived.Shelf.SlSortCmp.Insertion1
import Derived.ProofKit
namespace Go.Proofs.Ytfnkboegbclnaaa
open Go.RowKit Go.Shelf Go.Lib Go.Sort Stm
set_option linter.unusedSectionVars false
set_option linter.unusedVariables false
variable {α : Type} [Inhabited α]
theorem stMixed : Try.prog.follows Departure.mixedOrders = true := by kernel_rfl
theorem stA3 : ∀ w, (isAgg 3).run Try.prog w = .ok false w := fun w => by rfl
theorem stZ3 : ∀ w, (Go.sizeOf 3).run Try.prog w = .ok 1 w := fun w => by rfl

set_option maxHeartbeats 1000000 in
set_option maxRecDepth 100000 in
theorem swapR_any (enc : α → Value) (fv : Value) (blk off cap a b n : Nat) (d0 d : Array α) (w0 w : World) (R : Row1 enc w0 blk off d0) (hs : d.size = d0.size) (S : SW enc w0 blk off d w) (hab : a + n ≤ b) (hb : b + n ≤ d.size) (hsz : d.size < 100000) :
    Calls Try.prog 48 #[.slice (some ⟨blk, off, none⟩) d.size cap, .int .i64 a, .int .i64 b, .int .i64 n, fv] w fun e w' => e = .returned (.tuple #[]) ∧ ∃ d', SW enc w0 blk off d' w' ∧ Hid (Ix d d' (swI a b n)) := by
  have hsH : Hid (d.size = d0.size) := hs
  have habH : Hid (a + n ≤ b) := hab
  have hbH : Hid (b + n ≤ d.size) := hb
  have hszH : Hid (d.size < 100000) := hsz
  have SH : Hid (SW enc w0 blk off d w) := S
  clear S hs hab hb hsz
  have mixed := stMixed
  have a3 := stA3
  have z3 := stZ3
  have hst := R.hO.store Try.prog
  have hcl0 := R.hO.cells
  simp only [Value.cells] at hcl0
  generalize hN : d.size = N at *
  have hNH : Hid (d.size = N) := hN
  clear hN
  go_enter Try.func48, Try.ntmps48
  go_wp2
  go_loopw [10] (fun iv wr => ∃ (i : Nat) (dk : Array α), iv = .int .i64 i ∧ i ≤ n ∧ Hid (SW enc w0 blk off dk wr) ∧ Hid (Ix d dk (swI a b i)))
    (fun iv _ => n - (intOf iv).toNat)
  case atStart => exact ⟨0, d, rfl, Nat.zero_le _, SH, (Ix.refl d).congr fun k => (swI_zero a b k).symm⟩
  case round =>
    clear SH
    obtain ⟨i, dk, rfl, hin, S1, HI⟩ := hrel
    by_cases hi : i < n
    · have hii : (i : Int) < (n : Int) := by omega
      have hiH : Hid (i < n) := hi
      have hdk : dk.size = N := by rw [HI.out.size]; exact hNH.out
      have e1 : dk.size = d0.size := by rw [hdk]; exact hsH.out
      have ha1 : a + i < dk.size := by have := habH.out; have := hbH.out; omega
      have hb1 : b + i < dk.size := by have := habH.out; have := hbH.out; omega
      obtain ⟨iN, hiN⟩ : ∃ q, q = a + i := ⟨_, rfl⟩
      obtain ⟨jN, hjN⟩ : ∃ q, q = b + i := ⟨_, rfl⟩
      have hN9 : N < 100000 := hszH.out
      have hi5 : Hid (i ≤ 100000) := by show _ ≤ _; have := hbH.out; omega
      have ea : ((a : Int) + (i : Int)).toNat = iN := by omega
      have pa : (0 : Int) ≤ (a : Int) + (i : Int) := by omega
      have ba : (a : Int) + (i : Int) < (N : Int) := by omega
      have ra : IntKind.i64.wrap ((a : Int) + (i : Int)) = (a : Int) + (i : Int) := by rw [IntKind.wrap_i64]; omega
      have eb : ((b : Int) + (i : Int)).toNat = jN := by omega
      have pb : (0 : Int) ≤ (b : Int) + (i : Int) := by omega
      have bb : (b : Int) + (i : Int) < (N : Int) := by omega
      have rb : IntKind.i64.wrap ((b : Int) + (i : Int)) = (b : Int) + (i : Int) := by rw [IntKind.wrap_i64]; omega
      obtain ⟨x, hx⟩ : ∃ x, x = dk[a + i]! := ⟨_, rfl⟩
      obtain ⟨y, hy⟩ : ∃ x, x = dk[b + i]! := ⟨_, rfl⟩
      have S3 : Hid (SW enc w0 blk off (swp dk (a + i) (b + i)) ((wr.setCell ⟨blk, off + iN, none⟩ (enc y)).setCell ⟨blk, off + jN, none⟩ (enc x)).drew) := by rw [hiN, hjN, hx, hy]; exact S1.out.swapped R (a + i) (b + i) ha1 hb1
      have X3 : Hid (Ix d (swp dk (a + i) (b + i)) (swI a b (i + 1))) := (HI.out.trans (Ix.swp ha1 hb1)).congr fun k => swI_step hiH.out habH.out
      have c1 := S1.out.c1 R e1 (a + i) ha1
      have c2 := S1.out.c1 R e1 (b + i) hb1
      have f1 := S1.out.f1 R e1 (a + i) ha1
      have f2 := S1.out.f1 R e1 (b + i) hb1
      obtain ⟨u, c3⟩ := S1.out.c2 R e1 (a + i) (b + i) ha1 hb1 (enc y)
      rw [← hjN, ← hiN] at c3
      rw [← hx, ← hiN] at c1
      rw [← hy, ← hjN] at c2
      rw [← hiN] at f1
      rw [← hjN] at f2
      clear S1 HI hx hy hiN hjN ha1 hb1 e1 hdk
      go_wp2_with fail
      go_big_region_o
      clear c1 c2 c3 f1 f2
      generalize ((wr.setCell ⟨blk, off + iN, none⟩ (enc y)).setCell ⟨blk, off + jN, none⟩ (enc x)).drew = w3 at S3 ⊢
      clear ea eb pa pb ba bb ra rb
      go_wp2
      refine ⟨⟨i + 1, _, by first | exact int_succ i | exact int_wsucc hi5.out, hiH.out, S3, X3⟩, ?_⟩
      first | exact meas_1 hiH.out | exact meas_w hiH.out hi5.out
    · have hii : ¬ (i : Int) < (n : Int) := by omega
      have e : i = n := by omega
      subst e
      go_wp2
      go_end0
      exact ⟨rfl, dk, S1.out, HI⟩

set_option maxHeartbeats 1000000 in
set_option maxRecDepth 100000 in
theorem rotR_any (enc : α → Value) (fv : Value) (blk off cap a m b : Nat) (d0 d : Array α) (w0 w : World) (R : Row1 enc w0 blk off d0) (hs : d.size = d0.size) (S : SW enc w0 blk off d w) (ham : a < m) (hmb : m < b) (hb : b ≤ d.size) (hsz : d.size < 100000) :
    Calls Try.prog 46 #[.slice (some ⟨blk, off, none⟩) d.size cap, .int .i64 a, .int .i64 m, .int .i64 b, fv] w fun e w' => e = .returned (.tuple #[]) ∧ ∃ d', SW enc w0 blk off d' w' ∧ Hid (Ix d d' (rotI a m b)) := by
  have hsH : Hid (d.size = d0.size) := hs
  have hamH : Hid (a < m) := ham
  have hmbH : Hid (m < b) := hmb
  have hbH : Hid (b ≤ d.size) := hb
  have hszH : Hid (d.size < 100000) := hsz
  have SH : Hid (SW enc w0 blk off d w) := S
  have hsw : Hid (∀ (p q n : Nat) (dk : Array α) (wk : World), dk.size = d.size → SW enc w0 blk off dk wk → p + n ≤ q → q + n ≤ dk.size → Calls Try.prog 48 #[.slice (some ⟨blk, off, none⟩) d.size cap, .int .i64 p, .int .i64 q, .int .i64 n, fv] wk fun e w' => e = .returned (.tuple #[]) ∧ ∃ d', SW enc w0 blk off d' w' ∧ Hid (Ix dk d' (swI p q n))) := by
    intro p q n dk wk e1 h1 h2 h3
    rw [← e1]
    exact swapR_any enc fv blk off cap p q n d0 dk w0 wk R (by rw [e1, hs]) h1 h2 h3 (by rw [e1]; exact hsz)
  have hw1 : IntKind.i64.wrap ((m : Int) - (a : Int)) = ((m - a : Nat) : Int) := by rw [IntKind.wrap_i64]; omega
  have hw2 : IntKind.i64.wrap ((b : Int) - (m : Int)) = ((b - m : Nat) : Int) := by rw [IntKind.wrap_i64]; omega
  clear S hs ham hmb hb hsz R
  generalize hN : d.size = N at *
  have hNH : Hid (d.size = N) := hN
  clear hN
  go_enter Try.func46, Try.ntmps46
  go_wp2
  go_loopw [10, 11] (fun iv jv wr => ∃ (i j : Nat) (f : Nat → Nat) (dk : Array α), iv = .int .i64 i ∧ jv = .int .i64 j ∧ Hid (0 < i ∧ 0 < j ∧ i ≤ m ∧ a ≤ m - i ∧ m + j ≤ b) ∧ Hid (SW enc w0 blk off dk wr) ∧ Hid (Ix d dk f) ∧ Hid (∀ k, f (rotI (m - i) m (m + j) k) = rotI a m b k))
    (fun iv jv _ => (intOf iv).toNat + (intOf jv).toNat)
  case atStart =>
    refine ⟨m - a, b - m, fun k => k, d, ?_, ?_, ?_, SH, Ix.refl d, ?_⟩
    · first | rfl | exact congrArg _ hw1
    · first | rfl | exact congrArg _ hw2
    · have := hamH.out; have := hmbH.out; exact ⟨by omega, by omega, by omega, by omega, by omega⟩
    · intro k
      have := hamH.out; have := hmbH.out
      rw [show m - (m - a) = a by omega, show m + (b - m) = b by omega]
  case round =>
    clear SH hw1 hw2
    obtain ⟨i, j, f, dk, rfl, rfl, hij, S1, HI, HF⟩ := hrel
    have hdk : Hid (dk.size = N) := by show _ = _; rw [HI.out.size]; exact hNH.out
    have hwa : wrap64 ((m : Int) - (i : Int)) = ((m - i : Nat) : Int) := by have := hij.out; have := hszH.out; have := hbH.out; unfold wrap64; omega
    have hwb : wrap64 ((m : Int) + (j : Int)) = ((m + j : Nat) : Int) := by have := hij.out; have := hszH.out; have := hbH.out; unfold wrap64; omega
    rcases Nat.lt_trichotomy i j with hlt | heq | hgt
    · have c1 : ¬ (i : Int) = (j : Int) := by omega
      have c2 : ¬ (j : Int) < (i : Int) := by omega
      have hwc : wrap64 ((m : Int) + (j : Int) - (i : Int)) = ((m + j - i : Nat) : Int) := by have := hij.out; have := hszH.out; have := hbH.out; unfold wrap64; omega
      have hwd : Hid (wrap64 ((j : Int) - (i : Int)) = ((j - i : Nat) : Int)) := by show _ = _; have := hij.out; have := hszH.out; have := hbH.out; unfold wrap64; omega
      have hcall := hsw.out (m - i) (m + j - i) i dk wr hdk.out S1.out (by have := hij.out; omega) (by rw [hdk.out]; have := hij.out; have := hbH.out; omega)
      have hltH : Hid (i < j) := hlt
      clear hsw S1 hlt
      go_wp2_with (first
        | (go_at_call 48; refine hcall.mono ?_; rintro e w2 ⟨rfl, d2, S2, X2⟩; have S2H : Hid (SW enc w0 blk off d2 w2) := S2; clear hcall S2)
        | go_in)
      refine ⟨⟨i, j - i, _, d2, by first | rfl | exact congrArg _ hwd.out | simp, by first | rfl | exact congrArg _ hwd.out | simp, ?_, S2H, HI.out.trans X2.out, ?_⟩, ?_⟩
      · have h1 := hij.out; have h2 := hltH.out; exact ⟨by omega, by omega, by omega, by omega, by omega⟩
      · intro k
        have h1 := hij.out; have h2 := hltH.out
        try dsimp only
        rw [rot_lt h2 h1.2.2.1]
        exact HF.out k
      · have h1 := hij.out; have h2 := hltH.out; have h3 := hwd.out
        simp [intOf, h3]
        omega
    · subst heq
      have hcall := hsw.out (m - i) m i dk wr hdk.out S1.out (by have := hij.out; omega) (by rw [hdk.out]; have := hij.out; have := hbH.out; omega)
      clear hsw S1
      go_wp2_with (first
        | (go_at_call 48; refine hcall.mono ?_; rintro e w2 ⟨rfl, d2, S2, X2⟩; have S2H : Hid (SW enc w0 blk off d2 w2) := S2; clear hcall S2)
        | go_in)
      go_end0
      refine ⟨rfl, d2, S2H.out, (HI.out.trans X2.out).congr fun k => ?_⟩
      try dsimp only
      rw [rot_eq hij.out.2.2.1]
      exact HF.out k
    · have c1 : ¬ (i : Int) = (j : Int) := by omega
      have c2 : (j : Int) < (i : Int) := by omega
      have hwd : Hid (wrap64 ((i : Int) - (j : Int)) = ((i - j : Nat) : Int)) := by show _ = _; have := hij.out; have := hszH.out; have := hbH.out; unfold wrap64; omega
      have hcall := hsw.out (m - i) m j dk wr hdk.out S1.out (by have := hij.out; omega) (by rw [hdk.out]; have := hij.out; have := hbH.out; omega)
      have hgtH : Hid (j < i) := hgt
      clear hsw S1 hgt
      go_wp2_with (first
        | (go_at_call 48; refine hcall.mono ?_; rintro e w2 ⟨rfl, d2, S2, X2⟩; have S2H : Hid (SW enc w0 blk off d2 w2) := S2; clear hcall S2)
        | go_in)
      refine ⟨⟨i - j, j, _, d2, by first | rfl | exact congrArg _ hwd.out | simp, by first | rfl | exact congrArg _ hwd.out | simp, ?_, S2H, HI.out.trans X2.out, ?_⟩, ?_⟩
      · have h1 := hij.out; have h2 := hgtH.out; exact ⟨by omega, by omega, by omega, by omega, by omega⟩
      · intro k
        have h1 := hij.out; have h2 := hgtH.out
        try dsimp only
        rw [rot_gt h2 h1.2.2.1]
        exact HF.out k
      · have h1 := hij.out; have h2 := hgtH.out; have h3 := hwd.out
        simp [intOf, h3]
        omega
end Go.Proofs.Ytfnkboegbclnaaa
