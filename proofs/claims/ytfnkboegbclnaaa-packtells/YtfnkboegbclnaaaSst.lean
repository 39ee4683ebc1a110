/- The library's stable sort at a row of one cell each, whole: slices.SortStableFunc. -/
import Derived.Test.YtfnkboegbclnaaaStv
import Derived.Test.YtfnkboegbclnaaaSti
namespace Go.Proofs.Ytfnkboegbclnaaa
open Go.RowKit Go.Shelf Go.Lib Go.Sort Stm
set_option linter.unusedSectionVars false
set_option linter.unusedVariables false
variable {α : Type} [Inhabited α]

def Dn (T : α → α → Prop) (s a : Nat) (d : Array α) : Prop := ∀ j, (j + 1) * s ≤ a → Srt T (j * s) ((j + 1) * s) d
def Un (T : α → α → Prop) (s a n : Nat) (d : Array α) : Prop := ∀ j, Srt T (a + j * s) (min (a + (j + 1) * s) n) d
theorem srt_ahead {T : α → α → Prop} {lo hi a b : Nat} {d d' : Array α} (h : Srt T lo hi d) (hp : Pmt a b d d') (hh : hi ≤ a) : Srt T lo hi d' := fun p q h1 h2 h3 => by
  rw [hp.outside (Or.inl (by omega)), hp.outside (Or.inl (by omega))]; exact h p q h1 h2 h3
theorem srt_behind {T : α → α → Prop} {lo hi a b : Nat} {d d' : Array α} (h : Srt T lo hi d) (hp : Pmt a b d d') (hh : b ≤ lo) : Srt T lo hi d' := fun p q h1 h2 h3 => by
  rw [hp.outside (Or.inr (by omega)), hp.outside (Or.inr (by omega))]; exact h p q h1 h2 h3
theorem dn_zero (T : α → α → Prop) {s : Nat} (hs : 0 < s) (d : Array α) : Dn T s 0 d := fun j h => by
  have : s ≤ (j + 1) * s := Nat.le_mul_of_pos_left s (Nat.succ_pos j)
  omega
theorem dn_step {T : α → α → Prop} {s a c : Nat} {d d' : Array α} (h : Dn T s a d) (ha : a = c * s) (hs : 0 < s) (hp : Pmt a (a + s) d d') (hn : Srt T a (a + s) d') : Dn T s (a + s) d' := fun j hj => by
  by_cases e : (j + 1) * s ≤ a
  · exact srt_ahead (h j e) hp e
  · have e2 : j = c := by
      have h1 : ¬ (j + 1) * s ≤ c * s := by rw [← ha]; exact e
      have h2 : (j + 1) * s ≤ (c + 1) * s := by rw [Nat.succ_mul c, ← ha]; exact hj
      have h3 : ¬ j + 1 ≤ c := fun h => h1 (Nat.mul_le_mul_right s h)
      have h4 : j + 1 ≤ c + 1 := Nat.le_of_mul_le_mul_right h2 hs
      omega
    rw [e2, Nat.succ_mul, ← ha]
    exact hn
theorem un_step {T : α → α → Prop} {s a n : Nat} {d d' : Array α} (h : Un T s a n d) (hp : Pmt a (a + 2 * s) d d') : Un T s (a + 2 * s) n d' := fun j => by
  have e1 : a + 2 * s + j * s = a + (j + 2) * s := by rw [Nat.add_mul]; omega
  have e2 : a + 2 * s + (j + 1) * s = a + (j + 2 + 1) * s := by rw [Nat.add_mul, Nat.add_mul, Nat.add_mul]; omega
  rw [e1, e2]
  exact srt_behind (h (j + 2)) hp (by rw [Nat.add_mul]; omega)
theorem un_of {T : α → α → Prop} {s a c n : Nat} {d : Array α} (h : Dn T s a d) (ha : a = c * s) (hs : 0 < s) (hn : Srt T a n d) (hl : n < a + s) : Un T s 0 n d := fun j => by
  rw [Nat.zero_add, Nat.zero_add]
  by_cases e : (j + 1) * s ≤ a
  · intro p q h1 h2 h3; exact h j e p q h1 h2 (by omega)
  · have h3 : ¬ j + 1 ≤ c := fun h => e (by rw [ha]; exact Nat.mul_le_mul_right s h)
    by_cases e2 : j = c
    · subst e2
      intro p q h1 h2 h3; exact hn p q (by omega) h2 (by omega)
    · have h4 : (c + 1) * s ≤ j * s := Nat.mul_le_mul_right s (by omega)
      rw [Nat.succ_mul, ← ha] at h4
      intro p q h1 h2 h3; omega
theorem un_left {T : α → α → Prop} {s a n : Nat} {d : Array α} (h : Un T s a n d) (hn : a + s ≤ n) : Srt T a (a + s) d := by
  have := h 0
  rw [Nat.zero_mul, Nat.zero_add, Nat.one_mul, Nat.add_zero, Nat.min_eq_left hn] at this
  exact this
theorem un_all {T : α → α → Prop} {s a n : Nat} {d : Array α} (h : Un T s a n d) (hn : n ≤ a + s) : Srt T a n d := by
  have := h 0
  rw [Nat.zero_mul, Nat.zero_add, Nat.one_mul, Nat.add_zero, Nat.min_eq_right hn] at this
  exact this
theorem un_right {T : α → α → Prop} {s a n : Nat} {d : Array α} (h : Un T s a n d) (hn : a + 2 * s ≤ n) : Srt T (a + s) (a + 2 * s) d := by
  have := h 1
  rw [Nat.one_mul, show (1 + 1) * s = 2 * s from rfl, Nat.min_eq_left hn] at this
  exact this
theorem un_rest {T : α → α → Prop} {s a n : Nat} {d : Array α} (h : Un T s a n d) (hn : n ≤ a + 2 * s) : Srt T (a + s) n d := by
  have := h 1
  rw [Nat.one_mul, show (1 + 1) * s = 2 * s from rfl, Nat.min_eq_right hn] at this
  exact this

theorem ins_any {enc : α → Value} {cf : α → α → Int} {T : α → α → Prop} {g : Nat} {cb : Array Value} {blk off : Nat} (cap : Nat) {d0 : Array α} {w0 : World} (C : SyC enc cf T g cb blk off d0 w0) (a b : Nat) (d : Array α) (w : World) (hs : d.size = d0.size) (S : SW enc w0 blk off d w) (hab : a ≤ b) (hb : b ≤ d.size) (hS : Stb (ltOf cf) T d) :
    Calls Try.prog 42 #[.slice (some ⟨blk, off, none⟩) d0.size cap, .int .i64 a, .int .i64 b, .func (.func g) #[] cb] w fun e w' => e = .returned (.tuple #[]) ∧ ∃ d', SW enc w0 blk off d' w' ∧ Hid (Pmt a b d d' ∧ Stb (ltOf cf) T d' ∧ Srt T a b d') := by
  have h := Any.insertionSortCmpFunc_s Try.insP enc cf g cb blk off cap a b d0 d w0 w C.eg C.hcmp C.R hs.symm S hab hb (by have := C.hsz; omega)
  rw [← hs]
  exact h.mono fun e w' ⟨he, hS'⟩ => ⟨he, _, hS', ins_ok C.hO hb hS⟩
theorem sym_any {enc : α → Value} {cf : α → α → Int} {T : α → α → Prop} {g : Nat} {cb : Array Value} {blk off : Nat} (cap : Nat) {d0 : Array α} {w0 : World} (C : SyC enc cf T g cb blk off d0 w0) (a m b : Nat) (d : Array α) (w : World) (hs : d.size = d0.size) (S : SW enc w0 blk off d w) (ham : a < m) (hmb : m < b) (hb : b ≤ d.size) (hS : Stb (ltOf cf) T d) (h1 : Srt T a m d) (h2 : Srt T m b d) :
    Calls Try.prog 43 #[.slice (some ⟨blk, off, none⟩) d0.size cap, .int .i64 a, .int .i64 m, .int .i64 b, .func (.func g) #[] cb] w fun e w' => e = .returned (.tuple #[]) ∧ ∃ d', SW enc w0 blk off d' w' ∧ Hid (Pmt a b d d' ∧ Stb (ltOf cf) T d' ∧ Srt T a b d') :=
  sym_all enc cf T g cb blk off cap d0 w0 C (b - a) a m b d w (Nat.le_refl _) hs S ham hmb hb hS h1 h2

set_option maxHeartbeats 2000000 in
set_option maxRecDepth 100000 in
theorem stable_any {enc : α → Value} {cf : α → α → Int} {T : α → α → Prop} {g : Nat} {cb : Array Value} {blk off : Nat} (cap : Nat) {d0 : Array α} {w0 : World} (C : SyC enc cf T g cb blk off d0 w0) (hS : Stb (ltOf cf) T d0) :
    Calls Try.prog 36 #[.slice (some ⟨blk, off, none⟩) d0.size cap, .int .i64 d0.size, .func (.func g) #[] cb] w0 fun e w' => e = .returned (.tuple #[]) ∧ ∃ d', SW enc w0 blk off d' w' ∧ Hid (Pmt 0 d0.size d0 d' ∧ Srt T 0 d0.size d') := by
  have hins := fun (a b : Nat) (d : Array α) (w : World) => ins_any (enc := enc) (T := T) cap C a b d w
  have hsym := fun (a m b : Nat) (d : Array α) (w : World) => sym_any (enc := enc) (T := T) cap C a m b d w
  have hszH : Hid (d0.size < 100000) := C.hsz
  have SH : Hid (SW enc w0 blk off d0 w0) := SW.start C.R.hH
  have hSH : Hid (Stb (ltOf cf) T d0) := hS
  clear C hS
  have hinsH : Hid _ := hins
  have hsymH : Hid _ := hsym
  clear hins hsym
  obtain ⟨N, hN⟩ : ∃ N, N = d0.size := ⟨_, rfl⟩
  rw [← hN] at hinsH hsymH hszH ⊢
  have hNH : Hid (d0.size = N) := hN.symm
  clear hN
  go_enter Try.func36, Try.ntmps36
  go_wp2
  go_loopg [7, 8] (N + 20) (fun gz av bv wr => ∃ (a b c : Nat) (d : Array α), av = .int .i64 a ∧ bv = .int .i64 b ∧ N + 20 - a ≤ gz ∧ Hid (a = c * 20 ∧ b = a + 20 ∧ a ≤ N) ∧ Hid (SW enc w0 blk off d wr) ∧ Hid (Pmt 0 N d0 d ∧ Stb (ltOf cf) T d ∧ Dn T 20 a d))
  case atStart => exact ⟨0, 20, 0, d0, rfl, rfl, by omega, ⟨rfl, rfl, Nat.zero_le _⟩, SH, Pmt.refl _ _ _, hSH.out, dn_zero T (by omega) _⟩
  case round =>
    clear SH hSH
    obtain ⟨a, b, c, d, rfl, rfl, hgz, hac, S1, HI⟩ := hrel
    by_cases hb : b ≤ N
    · have hbz : (b : Int) ≤ (N : Int) := by omega
      have hsz1 := hszH.out
      have hcall := hinsH.out a b d wr (by rw [HI.out.1.size, hNH.out]) S1.out (by have := hac.out; omega) (by rw [HI.out.1.size, hNH.out]; exact hb) HI.out.2.1
      have hwb : Hid (wrap64 ((b : Int) + 20) = ((b + 20 : Nat) : Int)) := by show _ = _; unfold wrap64; omega
      have hbH : Hid (b ≤ N) := hb
      clear hb hsz1 S1
      go_wp2_with (first
        | (go_at_call 42; refine hcall.mono ?_; clear hcall; rintro e w5 ⟨rfl, d5, S5, X5⟩; have S5H : Hid (SW enc w0 blk off d5 w5) := S5; clear S5)
        | go_in)
      go_roundg (N + 20 - b)
      case measure => have := hac.out; have := hbH.out; omega
      case rel =>
        have hb1 := hac.out.2.1
        refine ⟨b, b + 20, c + 1, d5, rfl, by first | exact congrArg _ hwb.out | rfl | simp, Nat.le_refl _, ⟨?_, rfl, hbH.out⟩, S5H, ?_⟩
        · rw [hb1, hac.out.1, Nat.succ_mul]
        · have hp := X5.out.1
          refine ⟨HI.out.1.trans (hp.wide (Nat.zero_le _) hbH.out), X5.out.2.1, ?_⟩
          rw [hb1] at hp ⊢
          exact dn_step HI.out.2.2 hac.out.1 (by omega) hp (by rw [← hb1]; exact X5.out.2.2)
    · have hbz : ¬ (b : Int) ≤ (N : Int) := by omega
      have hcall := hinsH.out a N d wr (by rw [HI.out.1.size, hNH.out]) S1.out hac.out.2.2 (by rw [HI.out.1.size, hNH.out]; exact Nat.le_refl _) HI.out.2.1
      have hbH : Hid (¬ b ≤ N) := hb
      clear hb S1
      go_wp2_with (first
        | (go_at_call 42; refine hcall.mono ?_; clear hcall; rintro e w5 ⟨rfl, d5, S5, X5⟩; have S5H : Hid (SW enc w0 blk off d5 w5) := S5; clear S5)
        | go_in)
      have hP5 : Hid (Pmt 0 N d0 d5 ∧ Stb (ltOf cf) T d5 ∧ Un T 20 0 N d5) := ⟨HI.out.1.trans (X5.out.1.wide (Nat.zero_le _) (Nat.le_refl _)), X5.out.2.1, un_of (c := c) (fun j hj => srt_ahead (HI.out.2.2 j hj) X5.out.1 hj) hac.out.1 (by omega) X5.out.2.2 (by have h1 := hac.out; have h2 := hbH.out; omega)⟩
      clear HI X5 hinsH
      have hfin : Hid (∀ (s : Nat) (d : Array α), Un T s 0 N d → N ≤ s → Srt T 0 N d) := fun s d h1 h2 => un_all h1 (by omega)
      go_loopg [6] N (fun gz sv wr => ∃ (s : Nat) (d : Array α), sv = .int .i64 s ∧ N - s ≤ gz ∧ Hid (20 ≤ s ∧ s < 200000) ∧ Hid (SW enc w0 blk off d wr) ∧ Hid (Pmt 0 N d0 d ∧ Stb (ltOf cf) T d ∧ Un T s 0 N d))
      case atStart => exact ⟨20, d5, rfl, by omega, ⟨by omega, by omega⟩, S5H, hP5.out⟩
      case round =>
        clear S5H hP5
        rename World => wr2
        obtain ⟨s, d, rfl, hgz2, hs, S1, HI⟩ := hrel
        by_cases hlt : s < N
        · have hltz : (s : Int) < (N : Int) := by omega
          obtain ⟨t, ht⟩ : ∃ t, t = 2 * s := ⟨_, rfl⟩
          have htH : Hid (t = 2 * s) := ht
          have hltH : Hid (s < N) := hlt
          have hw2 : wrap64 (2 * (s : Int)) = (t : Int) := by have h1 := hs.out; unfold wrap64; omega
          have hw3 : Hid (wrap64 ((s : Int) * 2) = (t : Int)) := by show _ = _; have h1 := hs.out; unfold wrap64; omega
          have htN : Hid (t < 400000) := by show _ < _; have h1 := hs.out; omega
          clear hlt ht
          go_wp2
          try simp only [hw2]
          have hw2H : Hid (wrap64 (2 * (s : Int)) = (t : Int)) := hw2
          clear hw2
          go_loopg [7, 8] (N + t) (fun gz av bv wr => ∃ (a b c : Nat) (d : Array α), av = .int .i64 a ∧ bv = .int .i64 b ∧ N + t - a ≤ gz ∧ Hid (a = c * t ∧ b = a + t ∧ a ≤ N) ∧ Hid (SW enc w0 blk off d wr) ∧ Hid (Pmt 0 N d0 d ∧ Stb (ltOf cf) T d ∧ Dn T t a d ∧ Un T s a N d))
          case atStart => exact ⟨0, t, 0, d, rfl, rfl, Nat.le_refl _, ⟨by omega, by omega, Nat.zero_le _⟩, S1, HI.out.1, HI.out.2.1, dn_zero T (by have := hs.out; have := htH.out; omega) _, HI.out.2.2⟩
          case round =>
            clear S1 HI
            rename World => wr3
            obtain ⟨a, b, c, d, rfl, rfl, hgz3, hac, S1, HI⟩ := hrel
            obtain ⟨m, hm⟩ : ∃ m, m = a + s := ⟨_, rfl⟩
            have hmH : Hid (m = a + s) := hm
            have hz1 := hszH.out
            have hz2 := hs.out
            have hz3 := hac.out
            have hz4 := htH.out
            by_cases hb : b ≤ N
            · have hbz : (b : Int) ≤ (N : Int) := by omega
              have hcall := hsymH.out a m b d wr3 (by rw [HI.out.1.size, hNH.out]) S1.out (by omega) (by omega) (by rw [HI.out.1.size, hNH.out]; exact hb) HI.out.2.1 (by rw [hm]; exact un_left HI.out.2.2.2 (by omega)) (by rw [hm, hz3.2.1, hz4]; exact un_right HI.out.2.2.2 (by omega))
              have hbH : Hid (b ≤ N) := hb
              have hwb0 : Hid (wrap64 ((b : Int) + (t : Int)) = ((b + t : Nat) : Int)) := by clear hcall; show _ = _; unfold wrap64; omega
              have hwb1 : Hid (wrap64 ((b : Int) + 2 * (s : Int)) = ((b + t : Nat) : Int)) := by clear hcall; show _ = _; unfold wrap64; omega
              have hwm : wrap64 ((a : Int) + (s : Int)) = (m : Int) := by clear hcall; unfold wrap64; omega
              have hwb1 := hwb1.out
              have hwb1H : Hid _ := hwb1
              clear hb S1 hz1 hz2 hz3 hz4 hm
              go_wp2_with (first
                | (go_at_call 43; refine hcall.mono ?_; clear hcall hwm; rintro e w7 ⟨rfl, d7, S7, X7⟩; have S7H : Hid (SW enc w0 blk off d7 w7) := S7; clear S7)
                | fail)
              clear hwb1
              go_roundg (N + t - b)
              case measure => have := hac.out; have := hbH.out; have := hs.out; have := htH.out; omega
              case rel =>
                have hb1 := hac.out.2.1
                have ht1 := htH.out
                refine ⟨b, b + t, c + 1, d7, rfl, by first | exact congrArg (Value.int .i64) ((congrArg (fun z => wrap64 ((b : Int) + z)) hw2H.out).trans hwb0.out) | exact congrArg _ hwb1H.out | exact congrArg _ hwb0.out | rfl | simp, Nat.le_refl _, ⟨?_, rfl, hbH.out⟩, S7H, ?_⟩
                · rw [hb1, hac.out.1, Nat.succ_mul]
                · have hp := X7.out.1
                  refine ⟨HI.out.1.trans (hp.wide (Nat.zero_le _) hbH.out), X7.out.2.1, ?_, ?_⟩
                  · rw [hb1] at hp ⊢
                    exact dn_step HI.out.2.2.1 hac.out.1 (by have := hs.out; omega) hp (by rw [← hb1]; exact X7.out.2.2)
                  · rw [hb1, ht1] at hp ⊢
                    exact un_step HI.out.2.2.2 hp
            · have hbz : ¬ (b : Int) ≤ (N : Int) := by omega
              have hwmH : Hid (wrap64 ((a : Int) + (s : Int)) = (m : Int)) := by show _ = _; unfold wrap64; omega
              have hdone : Hid (∀ d', Dn T t a d' → Srt T a N d' → Un T (2 * s) 0 N d') := fun d' h1 h2 => by
                rw [← htH.out]
                exact un_of h1 hac.out.1 (by omega) h2 (by omega)
              by_cases hmn : m < N
              · have hmz : (m : Int) < (N : Int) := by omega
                have hcall := hsymH.out a m N d wr3 (by rw [HI.out.1.size, hNH.out]) S1.out (by omega) hmn (by rw [HI.out.1.size, hNH.out]; exact Nat.le_refl _) HI.out.2.1 (by rw [hm]; exact un_left HI.out.2.2.2 (by omega)) (by rw [hm]; exact un_rest HI.out.2.2.2 (by omega))
                clear hb hmn hm hz1 hz2 hz3 hz4 S1
                have hwm := hwmH.out
                go_wp2_with (first
                  | (go_at_call 43; refine hcall.mono ?_; clear hcall hwm; rintro e w7 ⟨rfl, d7, S7, X7⟩; have S7H : Hid (SW enc w0 blk off d7 w7) := S7; clear S7)
                  | fail)
                go_roundg (N - t)
                case measure => have := hltH.out; have := hs.out; have := htH.out; omega
                case rel =>
                  refine ⟨t, d7, by first | exact congrArg _ hw3.out | rfl, Nat.le_refl _, ?_, S7H, HI.out.1.trans (X7.out.1.wide (Nat.zero_le _) (Nat.le_refl _)), X7.out.2.1, ?_⟩
                  · have h1 := hltH.out; have h2 := hs.out; have h3 := htH.out; have h4 := hszH.out; exact ⟨by omega, by omega⟩
                  · rw [htH.out]
                    exact hdone.out d7 (fun j hj => srt_ahead (HI.out.2.2.1 j hj) X7.out.1 hj) X7.out.2.2
              · have hmz : ¬ (m : Int) < (N : Int) := by omega
                have hsa : Hid (Srt T a N d) := un_all HI.out.2.2.2 (by omega)
                clear hb hmn hm hz1 hz2 hz3 hz4
                have hwm := hwmH.out
                go_wp2
                clear hwm
                go_roundg (N - t)
                case measure => have := hltH.out; have := hs.out; have := htH.out; omega
                case rel =>
                  refine ⟨t, d, by first | exact congrArg _ hw3.out | rfl, Nat.le_refl _, ?_, S1, HI.out.1, HI.out.2.1, ?_⟩
                  · have h1 := hltH.out; have h2 := hs.out; have h3 := htH.out; have h4 := hszH.out; exact ⟨by omega, by omega⟩
                  · rw [htH.out]
                    exact hdone.out d HI.out.2.2.1 hsa.out
        · have hltz : ¬ (s : Int) < (N : Int) := by omega
          have hS9 := hfin.out s d HI.out.2.2 (by omega)
          have hS9H : Hid (Srt T 0 N d) := hS9
          clear hS9 hlt
          go_wp2
          (try simp only [Exit.inBlock, Exit.then]); first | refine bodyPost_end (results_none rfl _ _ _) rfl ?_ | refine bodyPost_ret (results_none rfl _ _ _) rfl ?_
          exact ⟨rfl, d, S1.out, HI.out.1, hS9H.out⟩

theorem sortStable_any {enc : α → Value} {cf : α → α → Int} {T : α → α → Prop} {g : Nat} {cb : Array Value} {blk off : Nat} (cap : Nat) {d0 : Array α} {w0 : World} (C : SyC enc cf T g cb blk off d0 w0) (hS : Stb (ltOf cf) T d0) :
    Calls Try.prog 25 #[.slice (some ⟨blk, off, none⟩) d0.size cap, .func (.func g) #[] cb] w0 fun e w' => e = .returned (.tuple #[]) ∧ ∃ d', SW enc w0 blk off d' w' ∧ Hid (Pmt 0 d0.size d0 d' ∧ Srt T 0 d0.size d') := by
  have hc := stable_any cap C hS
  clear C hS
  go_enter Try.func25, Try.ntmps25
  go_wp2_with (first
    | (go_at_call 36; refine hc.mono ?_; rintro e w7 ⟨rfl, d7, S7, X7⟩)
    | fail)
  (try simp only [Exit.inBlock, Exit.then]); first | refine bodyPost_end (results_none rfl _ _ _) rfl ?_ | refine bodyPost_ret (results_none rfl _ _ _) rfl ?_
  exact ⟨rfl, d7, S7, X7⟩
end Go.Proofs.Ytfnkboegbclnaaa
