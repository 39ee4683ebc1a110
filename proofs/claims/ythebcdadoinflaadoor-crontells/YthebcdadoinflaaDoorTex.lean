/- What the reference's CronText answers, for every cron that is right: a contract, proved by a walk over its own text. -/
import Derived.Test.YthebcdadoinflaaDoorTdg
import Derived.Test.YthebcdadoinflaaDoorRff
import Derived.Test.YthebcdadoinflaaDoorRnm
namespace Go.Proofs.YthebcdadoinflaaDoor
open Go.RowKit Cal Crn Txt

def allI : Nat → Nat | 0 => 1152921504606846975 | 1 => 16777215 | 2 => 4294967294 | 3 => 8190 | _ => 127
theorem tl_at (c : Cr) {k : Nat} (hk : k < 5) : (tl c).getD k [] = stx (setI c k) (allI k) := by
  rcases (show k = 0 ∨ k = 1 ∨ k = 2 ∨ k = 3 ∨ k = 4 by omega) with e | e | e | e | e <;> subst e <;> rfl
theorem tl_take (c : Cr) {k : Nat} (hk : k < 5) : (tl c).take (k + 1) = (tl c).take k ++ [stx (setI c k) (allI k)] := by
  rcases (show k = 0 ∨ k = 1 ∨ k = 2 ∨ k = 3 ∨ k = 4 by omega) with e | e | e | e | e <;> subst e <;> rfl
theorem al_at {k : Nat} (hk : k < 5) : Al (allI k) (loI k) (hiI k) := by
  rcases (show k = 0 ∨ k = 1 ∨ k = 2 ∨ k = 3 ∨ k = 4 by omega) with e | e | e | e | e <;> subst e
  · exact al0
  · exact al1
  · exact al2
  · exact al3
  · exact al4
theorem full_at {c : Cr} (hc : okB c = true) {k : Nat} (hk : k < 5) : Full (setI c k) (loI k) (hiI k) ↔ setI c k = allI k := by
  have hf := (ok_all (in5_ok hc)).1 hc k hk
  have ha := al_at hk
  exact full_eq ha.bit (setI_lt (in5_ok hc) k) ha.lt ha.top hf.2
theorem set_small {c : Cr} (hc : okB c = true) (k : Nat) : setI c k < 9223372036854775808 := by
  obtain ⟨_, a, _, b, _, d, _, _, e, _, _, f⟩ := ok_open hc
  unfold setI
  split <;> omega
/-- The bytes of a text, and of two in a row. -/
theorem cat_data (a b : ByteArray) : (a ++ b).data.toList = a.data.toList ++ b.data.toList := by rw [ByteArray.data_append]; simp
theorem dec_data (n : Nat) : (ByteArray.mk (dec n).toArray).data.toList = dec n := by simp
theorem rb_in {s lo hi : Nat} (hb : ∀ j, j < 64 → s.testBit j = true → lo ≤ j ∧ j ≤ hi) (hs : s < 9223372036854775808) : (∀ j, j < lo → s.testBit j = false) ∧ (∀ j, hi < j → s.testBit j = false) := by
  refine ⟨fun j hj => ?_, fun j hj => ?_⟩
  · by_cases e : s.testBit j = true
    · have := hb j (by have := bit_lt (n := 63) hs e; omega) e; omega
    · simpa using e
  · by_cases e : s.testBit j = true
    · have := hb j (by have := bit_lt (n := 63) hs e; omega) e; omega
    · simpa using e

set_option maxHeartbeats 400000 in
theorem In_neg (s : Nat) (n : Int) (w : World) (h : n < 0) :
    Calls Tryd.prog 21 #[.int .u64 s, .int .i64 n] w fun e w' => e = .returned (.bool false) ∧ w' = w := by
  go_enter Tryd.func21, Tryd.ntmps21
  go_wp2
  go_ret
  exact ⟨rfl, rfl⟩

theorem has_nat {s n : Nat} (h : hasB s (n : Int) = true) : s.testBit n = true := by unfold hasB at h; simpa using h
theorem has_nat_no {s n : Nat} (h : hasB s (n : Int) = false) : s.testBit n = false := by unfold hasB at h; simpa using h
theorem has_succ {s n : Nat} (h : hasB s ((n : Int) + 1) = true) : s.testBit (n + 1) = true := by unfold hasB at h; rw [show ((n : Int) + 1).toNat = n + 1 by omega] at h; exact h
theorem has_succ_no {s n : Nat} (h : hasB s ((n : Int) + 1) = false) : s.testBit (n + 1) = false := by unfold hasB at h; rw [show ((n : Int) + 1).toNat = n + 1 by omega] at h; exact h
theorem has_pred {s n : Nat} (h1 : 1 ≤ n) (h : hasB s ((n : Int) - 1) = true) : s.testBit (n - 1) = true := by unfold hasB at h; rw [show ((n : Int) - 1).toNat = n - 1 by omega] at h; exact h
theorem pred_has {s n : Nat} (h1 : 1 ≤ n) (h : s.testBit (n - 1) = true) : hasB s ((n : Int) - 1) = true := by unfold hasB; rw [show ((n : Int) - 1).toNat = n - 1 by omega]; exact h
theorem beg_of {s n : Nat} (h : s.testBit n = true) (h' : 1 ≤ n → s.testBit (n - 1) = true → False) : beg s n = true := by
  unfold beg
  rw [h]
  by_cases e : 1 ≤ n
  · have : s.testBit (n - 1) = false := by
      by_cases e2 : s.testBit (n - 1) = true
      · exact (h' e e2).elim
      · simpa using e2
    rw [this]
    simp
  · rw [decide_eq_false e]
    rfl
theorem rb_skip1 {s n : Nat} (h : s.testBit n = false) : rb s (n + 1) = rb s n := by
  have : beg s n = false := by unfold beg; rw [h]; rfl
  rw [rb, if_neg (by rw [this]; decide)]
theorem rb_skip2 {s n : Nat} (h1 : 1 ≤ n) (h : s.testBit (n - 1) = true) : rb s (n + 1) = rb s n := by
  have : beg s n = false := by unfold beg; rw [h, decide_eq_true h1]; simp
  rw [rb, if_neg (by rw [this]; decide)]
theorem rb_add {s n e : Nat} (h : beg s n = true) (hf : fin s n = e) : rb s (n + 1) = rb s n ++ [(n, e)] := by rw [rb, if_pos h, hf]
theorem nil_of {l : List (Nat × Nat)} (h : false = true ↔ l ≠ []) : l = [] := by
  cases l with
  | nil => rfl
  | cons a r => exact absurd (h.2 (by simp)) (by decide)
theorem text_on_one {o b : ByteArray} {l : List (Nat × Nat)} {n e : Nat} (h : o.data.toList = b.data.toList ++ Lib.join (l.map rtx) [44]) (hl : l ≠ []) (he : e = n) : (o ++ ⟨#[44]⟩ ++ ByteArray.mk (dec n).toArray).data.toList = b.data.toList ++ Lib.join ((l ++ [(n, e)]).map rtx) [44] := by
  rw [cat_data, cat_data, h, List.map_append, List.map_cons, List.map_nil, join_snoc _ (by simpa using hl), dec_data, show rtx (n, e) = dec n by unfold rtx; rw [if_pos he.symm]]
  simp
theorem text_on_two {o b : ByteArray} {l : List (Nat × Nat)} {n e : Nat} (h : o.data.toList = b.data.toList ++ Lib.join (l.map rtx) [44]) (hl : l ≠ []) (he : n < e) : (o ++ ⟨#[44]⟩ ++ ByteArray.mk (dec n).toArray ++ (⟨#[45]⟩ ++ ByteArray.mk (dec e).toArray)).data.toList = b.data.toList ++ Lib.join ((l ++ [(n, e)]).map rtx) [44] := by
  rw [cat_data, cat_data, cat_data, cat_data, h, List.map_append, List.map_cons, List.map_nil, join_snoc _ (by simpa using hl), dec_data, dec_data, show rtx (n, e) = dec n ++ 45 :: dec e by unfold rtx; rw [if_neg (show ¬ n = e by omega)]]
  simp
theorem text_first_one {o b : ByteArray} {l : List (Nat × Nat)} {n e : Nat} (h : o.data.toList = b.data.toList ++ Lib.join (l.map rtx) [44]) (hl : l = []) (he : e = n) : (o ++ ByteArray.mk (dec n).toArray).data.toList = b.data.toList ++ Lib.join ((l ++ [(n, e)]).map rtx) [44] := by
  subst hl
  rw [cat_data, h, dec_data, show ([] ++ [(n, e)] : List (Nat × Nat)).map rtx = [rtx (n, e)] from rfl, Lib.join_one, show rtx (n, e) = dec n by unfold rtx; rw [if_pos he.symm]]
  simp [Lib.join]
theorem text_first_two {o b : ByteArray} {l : List (Nat × Nat)} {n e : Nat} (h : o.data.toList = b.data.toList ++ Lib.join (l.map rtx) [44]) (hl : l = []) (he : n < e) : (o ++ ByteArray.mk (dec n).toArray ++ (⟨#[45]⟩ ++ ByteArray.mk (dec e).toArray)).data.toList = b.data.toList ++ Lib.join ((l ++ [(n, e)]).map rtx) [44] := by
  subst hl
  rw [cat_data, cat_data, cat_data, h, dec_data, dec_data, show ([] ++ [(n, e)] : List (Nat × Nat)).map rtx = [rtx (n, e)] from rfl, Lib.join_one, show rtx (n, e) = dec n ++ 45 :: dec e by unfold rtx; rw [if_neg (show ¬ n = e by omega)]]
  simp [Lib.join]
theorem sz1 (a : UInt8) : (ByteArray.mk #[a]).size = 1 := rfl
theorem dec_sz (n : Nat) (h : n < 64) : (ByteArray.mk (dec n).toArray).size ≤ 2 := by rw [mk_size]; exact (dec_free n h).2.2.2.2.2
theorem hi_lt63 (k : Nat) : hiI k < 63 := by unfold hiI; split <;> omega
theorem take_ne (c : Cr) {k : Nat} (h : ¬ k = 0) : (tl c).take k ≠ [] := by
  cases k with
  | zero => exact absurd rfl h
  | succ k => simp [tl]
set_option maxHeartbeats 16000000 in
theorem CronText_any (c : Cr) (hc : okB c = true) (w : World) :
    Calls Tryd.prog 11 #[.agg #[.int .u64 c.mi, .int .u64 c.ho, .int .u64 c.dm, .int .u64 c.mo, .int .u64 c.dw]] w fun e w' => e = .returned (.string ⟨(prt c).toArray⟩) ∧ Below w.heap.size w w' := by
  go_enter Tryd.func11, Tryd.ntmps11
  go_wp2_with fail
  refine (Sets_any _ _ _ _ _ _).mono ?_
  rintro e w1 ⟨rfl, hb⟩
  have hb1 : Below w.heap.size w w1 := (below_box w _).trans (hb.mono (by simp))
  clear hb
  go_wp2_with fail
  generalize hwq : World.alloc (World.alloc (World.alloc w1 _) _) _ = wq
  have hs : ∀ i, i < 5 → wq.cell? ⟨w1.heap.size, i, none⟩ = some (.int .u64 (setI c i)) := by
    intro i hi
    rw [← hwq, cell_blk (three_new _ _ _ _).1 i]
    rcases (show i = 0 ∨ i = 1 ∨ i = 2 ∨ i = 3 ∨ i = 4 by omega) with e | e | e | e | e <;> subst e <;> rfl
  have hl : ∀ i, i < 5 → wq.cell? ⟨w1.heap.size + 1, i, none⟩ = some (.int .i64 (loI i)) := by
    intro i hi
    rw [← hwq, cell_blk (three_new _ _ _ _).2.1 i]
    rcases (show i = 0 ∨ i = 1 ∨ i = 2 ∨ i = 3 ∨ i = 4 by omega) with e | e | e | e | e <;> subst e <;> rfl
  have hh : ∀ i, i < 5 → wq.cell? ⟨w1.heap.size + 1 + 1, i, none⟩ = some (.int .i64 (hiI i)) := by
    intro i hi
    rw [← hwq, cell_blk (three_new _ _ _ _).2.2 i]
    rcases (show i = 0 ∨ i = 1 ∨ i = 2 ∨ i = 3 ∨ i = 4 by omega) with e | e | e | e | e <;> subst e <;> rfl
  have hbq : Below w.heap.size w wq := by
    rw [← hwq]
    exact ((hb1.alloc hb1.size _).alloc (by have := hb1.size; simp; omega) _).alloc (by have := hb1.size; simp; omega) _
  clear hwq
  go_loopw [6, 17] (fun v i wr => ∃ (k d : Nat) (o : ByteArray), i = .int .i64 k ∧ k ≤ 5 ∧ v = .string o ∧ Hid (o.data.toList = Lib.join ((tl c).take k) [32]) ∧ o.size ≤ 400 * k ∧ wr = wq.drewN d) (fun _ i _ => 5 - (intOf i).toNat)
  case atStart => exact ⟨0, 0, ⟨#[]⟩, rfl, by omega, rfl, rfl, Nat.le_refl _, rfl⟩
  case round =>
    obtain ⟨k, d, o, rfl, hk, rfl, ho, hol, hwr0⟩ := hrel
    have HWR : Hid (wr = wq.drewN d) := hwr0
    clear hwr0
    by_cases hk5 : k < 5
    · have hsk : wr.cell? ⟨w1.heap.size, k, none⟩ = some (.int .u64 (setI c k)) := by rw [HWR.out]; exact hs k hk5
      have hlk : wr.cell? ⟨w1.heap.size + 1, k, none⟩ = some (.int .i64 (loI k)) := by rw [HWR.out]; exact hl k hk5
      have hhk : wr.cell? ⟨w1.heap.size + 1 + 1, k, none⟩ = some (.int .i64 (hiI k)) := by rw [HWR.out]; exact hh k hk5
      have hsm := set_small hc k
      have HSM : Hid (setI c k < 9223372036854775808) := hsm
      have hfu := full_at hc hk5
      have HFU : Hid (Full (setI c k) (loI k) (hiI k) ↔ setI c k = allI k) := hfu
      have hfi := (ok_all (in5_ok hc)).1 hc k hk5
      have HFI : Hid (setI c k ≠ 0 ∧ ∀ j, j < 64 → (setI c k).testBit j = true → loI k ≤ j ∧ j ≤ hiI k) := hfi
      have HTK : Hid ((tl c).take (k + 1) = (tl c).take k ++ [stx (setI c k) (allI k)]) := tl_take c hk5
      have hlt : setI c k < 18446744073709551616 := by omega
      have hlo := lo_lt k
      have hlh := (al_at hk5).low
      have hrb := rb_in HFI.out.2 HSM.out
      have HLOW : Hid (∀ j, j < loI k → (setI c k).testBit j = false) := hrb.1
      have HIN : Hid (∀ j, (setI c k).testBit j = true → j ≤ hiI k) := fun j hj => (HFI.out.2 j (by have := bit_lt (n := 63) HSM.out hj; omega) hj).2
      have HTOP : Hid (rb (setI c k) (hiI k + 1) = rns (setI c k)) := by
        show _ = _
        rw [← rb_rns _ _ (Nat.le_refl _) HSM.out, rb_top hrb.2 64 (by have := hi_lt k; omega)]
      have HHI : Hid (hiI k < 63) := hi_lt63 k
      clear hsm hfu hfi hs hl hh hrb
      generalize setI c k = S at *
      generalize loI k = lo at *
      generalize hiI k = hi at *
      have hhi : hi < 63 := HHI.out
      have s32 : (ByteArray.mk #[32]).size = 1 := rfl
      have s42 : (ByteArray.mk #[42]).size = 1 := rfl
      have s44 : (ByteArray.mk #[44]).size = 1 := rfl
      have s45 : (ByteArray.mk #[45]).size = 1 := rfl
      have hki : (k : Int) < 5 := by omega
      by_cases hk0 : k = 0
      · have hkz : ¬ (0 : Int) < (k : Int) := by omega
        have HBASE : Hid (o.data.toList ++ stx S (allI k) = Lib.join ((tl c).take (k + 1)) [32]) := by
          show _ = _
          rw [HTK.out, ho.out, hk0]
          simp [Lib.join]
        have hBl : o.size ≤ 400 * k + 1 := by omega
        clear hk0
        by_cases hfull : Full S lo hi
        · have HT : Hid (stx S (allI k) = [42]) := by show _ = _; unfold stx; rw [if_pos (HFU.out.1 hfull)]
          go_wp2_with fail
          go_quiet ((go_at_call 22; exact Calls.quiet_of_same (FullSet_yes S lo hi _ hlt (by omega) (by omega) (by omega) hfull)))
          skip
          go_wp2_with fail
          go_roundw
          case rel => exact ⟨k + 1, d + nq, o ++ ⟨#[42]⟩, by go_num, by omega, rfl, by show _ = _; rw [cat_data, ← HBASE.out, HT.out], by rw [ByteArray.size_append, sz1]; omega, by rw [HWR.out, World.drewN_drewN]⟩
          case measure => simp [intOf]; omega
        · have HT : Hid (stx S (allI k) = Lib.join ((rns S).map rtx) [44]) := by show _ = _; unfold stx; rw [if_neg (fun e => hfull (HFU.out.2 e))]
          go_wp2_with fail
          go_quiet ((go_at_call 22; exact Calls.quiet_of_same (FullSet_no S lo hi _ hlt (by omega) (by omega) (by omega) hfull)))
          skip
          skip
          have hsk : (wr.drewN nq).cell? ⟨w1.heap.size, k, none⟩ = some (.int .u64 S) := hsk
          have hlk : (wr.drewN nq).cell? ⟨w1.heap.size + 1, k, none⟩ = some (.int .i64 lo) := hlk
          have hhk : (wr.drewN nq).cell? ⟨w1.heap.size + 1 + 1, k, none⟩ = some (.int .i64 hi) := hhk
          have HWN : Hid (wr.drewN nq = wq.drewN (d + nq)) := by show _ = _; rw [HWR.out, World.drewN_drewN]
          generalize wr.drewN nq = wn at *
          go_wp2_with fail
          go_loop [6, 8, 9] (fun v b i => ∃ (n : Nat) (o2 : ByteArray) (sb : Bool), i = .int .i64 n ∧ lo ≤ n ∧ n ≤ hi + 1 ∧ v = .string o2 ∧ b = .bool sb ∧ Hid (o2.data.toList = (o).data.toList ++ Lib.join ((rb S n).map rtx) [44]) ∧ Hid (sb = true ↔ rb S n ≠ []) ∧ o2.size ≤ (o).size + 6 * n) (fun _ _ i => 64 - (intOf i).toNat)
          case atStart => exact ⟨lo, o, false, rfl, by omega, by omega, rfl, rfl, by show _ = _; rw [rb_low HLOW.out]; simp [Lib.join], by show _ ↔ _; rw [rb_low HLOW.out]; simp, by omega⟩
          case round =>
            obtain ⟨n, o2, sb, rfl, n1, n2, rfl, rfl, h1, h2, h3⟩ := hrel
            by_cases hn : n ≤ hi
            · by_cases hbit : hasB S (n : Int) = true
              · by_cases hprev : 1 ≤ n ∧ hasB S ((n : Int) - 1) = true
                · have HSK : Hid (rb S (n + 1) = rb S n) := rb_skip2 hprev.1 (has_pred hprev.1 hprev.2)
                  obtain ⟨hp1, hp2⟩ := hprev
                  go_wp2_with (first | (go_at_call 21; first | (refine (In_yes _ _ _ hlt (by omega) (by omega)).mono ?_; rintro e w' ⟨rfl, rfl⟩) | (refine (In_neg _ _ _ (by omega)).mono ?_; rintro e w' ⟨rfl, rfl⟩)))
                  go_round
                  case rel => exact ⟨n + 1, o2, sb, by go_num, by omega, by omega, rfl, rfl, by show _ = _; rw [HSK.out]; exact h1.out, by show _ ↔ _; rw [HSK.out]; exact h2.out, by omega⟩
                  case measure => simp [intOf]; omega
                · have hbeg : beg S n = true := beg_of (has_nat hbit) (fun h1 h2 => hprev ⟨h1, pred_has h1 h2⟩)
                  have HBG : Hid (beg S n = true) := hbeg
                  have HBN : Hid (S.testBit n = true) := has_nat hbit
                  clear hbeg
                  by_cases hn1 : 1 ≤ n
                  · have hpf : hasB S ((n : Int) - 1) = false := by
                      by_cases e : hasB S ((n : Int) - 1) = true
                      · exact absurd ⟨hn1, e⟩ hprev
                      · simpa using e
                    clear hprev
                    go_wp2_with (first | (go_at_call 21; first | (refine (In_yes _ _ _ hlt (by omega) (by omega)).mono ?_; rintro e w' ⟨rfl, rfl⟩) | (refine (In_neg _ _ _ (by omega)).mono ?_; rintro e w' ⟨rfl, rfl⟩)))
                    go_loop [10] (fun i => ∃ e : Nat, i = .int .i64 e ∧ n ≤ e ∧ e ≤ hi ∧ Hid (∀ j, n ≤ j → j ≤ e → S.testBit j = true)) (fun i => 64 - (intOf i).toNat)
                    case atStart => exact ⟨n, rfl, by omega, by omega, (fun j a b => by rw [show j = n by omega]; exact HBN.out)⟩
                    case round =>
                      obtain ⟨e, rfl, e1, e2, he⟩ := hrel
                      by_cases hnx : hasB S ((e : Int) + 1) = true
                      · have hle : e + 1 ≤ hi := HIN.out _ (has_succ hnx)
                        go_wp2_with (go_at_call 21; refine (In_yes _ _ _ hlt (by omega) (by omega)).mono ?_; rintro e w' ⟨rfl, rfl⟩)
                        go_round
                        case rel =>
                          refine ⟨e + 1, by go_num, by omega, hle, fun j a b => ?_⟩
                          rcases (show j ≤ e ∨ j = e + 1 by omega) with l | l
                          · exact he.out j a l
                          · rw [l]; exact has_succ hnx
                        case measure => simp [intOf]; omega
                      · have hnf : hasB S ((e : Int) + 1) = false := by simpa using hnx
                        clear hnx
                        have HAD : Hid (rb S (n + 1) = rb S n ++ [(n, e)]) := rb_add HBG.out (fin_of HSM.out e1 he.out (has_succ_no hnf))
                        by_cases hen : n < e
                        · cases sb with
                          | true =>
                            have q1 := (dec_free n (by omega)).2.2.2.2.2
                            have q2 := (dec_free e (by omega)).2.2.2.2.2
                            have r1 := dec_sz n (by omega)
                            have r2 := dec_sz e (by omega)
                            go_wp2_with (first | (go_at_call 21; refine (In_yes _ _ _ hlt (by omega) (by omega)).mono ?_; rintro e w' ⟨rfl, rfl⟩) | (go_at_call 23; refine (Digits_dec _ (by omega) _).mono ?_; rintro e w' ⟨rfl, rfl⟩))
                            all_goals (try (exfalso; omega))
                            go_round
                            case rel => exact ⟨n + 1, (((o2 ++ ⟨#[44]⟩ : ByteArray) ++ ByteArray.mk (dec n).toArray) ++ (⟨#[45]⟩ ++ ByteArray.mk (dec e).toArray)), true, by go_num, by omega, by omega, rfl, rfl, by show _ = _; rw [HAD.out]; exact text_on_two h1.out (h2.out.1 (by trivial)) (by omega), by show _ ↔ _; rw [HAD.out]; simp, by simp only [ByteArray.size_append, sz1]; have r1 := dec_sz n (by omega); have r2 := dec_sz e (by omega); omega⟩
                            case measure => simp [intOf]; omega
                          | false =>
                            have q1 := (dec_free n (by omega)).2.2.2.2.2
                            have q2 := (dec_free e (by omega)).2.2.2.2.2
                            have r1 := dec_sz n (by omega)
                            have r2 := dec_sz e (by omega)
                            go_wp2_with (first | (go_at_call 21; refine (In_yes _ _ _ hlt (by omega) (by omega)).mono ?_; rintro e w' ⟨rfl, rfl⟩) | (go_at_call 23; refine (Digits_dec _ (by omega) _).mono ?_; rintro e w' ⟨rfl, rfl⟩))
                            all_goals (try (exfalso; omega))
                            go_round
                            case rel => exact ⟨n + 1, ((o2 ++ ByteArray.mk (dec n).toArray) ++ (⟨#[45]⟩ ++ ByteArray.mk (dec e).toArray)), true, by go_num, by omega, by omega, rfl, rfl, by show _ = _; rw [HAD.out]; exact text_first_two h1.out (nil_of h2.out) (by omega), by show _ ↔ _; rw [HAD.out]; simp, by simp only [ByteArray.size_append, sz1]; have r1 := dec_sz n (by omega); have r2 := dec_sz e (by omega); omega⟩
                            case measure => simp [intOf]; omega
                        · have HEN : Hid (e = n) := by show _ = _; omega
                          cases sb with
                          | true =>
                            have q1 := (dec_free n (by omega)).2.2.2.2.2
                            have q2 := (dec_free e (by omega)).2.2.2.2.2
                            have r1 := dec_sz n (by omega)
                            have r2 := dec_sz e (by omega)
                            go_wp2_with (first | (go_at_call 21; refine (In_yes _ _ _ hlt (by omega) (by omega)).mono ?_; rintro e w' ⟨rfl, rfl⟩) | (go_at_call 23; refine (Digits_dec _ (by omega) _).mono ?_; rintro e w' ⟨rfl, rfl⟩))
                            all_goals (try (exfalso; omega))
                            go_round
                            case rel => exact ⟨n + 1, ((o2 ++ ⟨#[44]⟩ : ByteArray) ++ ByteArray.mk (dec n).toArray), true, by go_num, by omega, by omega, rfl, rfl, by show _ = _; rw [HAD.out]; exact text_on_one h1.out (h2.out.1 (by trivial)) HEN.out, by show _ ↔ _; rw [HAD.out]; simp, by simp only [ByteArray.size_append, sz1]; have r1 := dec_sz n (by omega); have r2 := dec_sz e (by omega); omega⟩
                            case measure => simp [intOf]; omega
                          | false =>
                            have q1 := (dec_free n (by omega)).2.2.2.2.2
                            have q2 := (dec_free e (by omega)).2.2.2.2.2
                            have r1 := dec_sz n (by omega)
                            have r2 := dec_sz e (by omega)
                            go_wp2_with (first | (go_at_call 21; refine (In_yes _ _ _ hlt (by omega) (by omega)).mono ?_; rintro e w' ⟨rfl, rfl⟩) | (go_at_call 23; refine (Digits_dec _ (by omega) _).mono ?_; rintro e w' ⟨rfl, rfl⟩))
                            all_goals (try (exfalso; omega))
                            go_round
                            case rel => exact ⟨n + 1, (o2 ++ ByteArray.mk (dec n).toArray), true, by go_num, by omega, by omega, rfl, rfl, by show _ = _; rw [HAD.out]; exact text_first_one h1.out (nil_of h2.out) HEN.out, by show _ ↔ _; rw [HAD.out]; simp, by simp only [ByteArray.size_append]; have r1 := dec_sz n (by omega); have r2 := dec_sz e (by omega); omega⟩
                            case measure => simp [intOf]; omega
                  · have hn0 : (n : Int) - 1 < 0 := by omega
                    clear hprev
                    go_wp2_with (first | (go_at_call 21; first | (refine (In_yes _ _ _ hlt (by omega) (by omega)).mono ?_; rintro e w' ⟨rfl, rfl⟩) | (refine (In_neg _ _ _ (by omega)).mono ?_; rintro e w' ⟨rfl, rfl⟩)))
                    go_loop [10] (fun i => ∃ e : Nat, i = .int .i64 e ∧ n ≤ e ∧ e ≤ hi ∧ Hid (∀ j, n ≤ j → j ≤ e → S.testBit j = true)) (fun i => 64 - (intOf i).toNat)
                    case atStart => exact ⟨n, rfl, by omega, by omega, (fun j a b => by rw [show j = n by omega]; exact HBN.out)⟩
                    case round =>
                      obtain ⟨e, rfl, e1, e2, he⟩ := hrel
                      by_cases hnx : hasB S ((e : Int) + 1) = true
                      · have hle : e + 1 ≤ hi := HIN.out _ (has_succ hnx)
                        go_wp2_with (go_at_call 21; refine (In_yes _ _ _ hlt (by omega) (by omega)).mono ?_; rintro e w' ⟨rfl, rfl⟩)
                        go_round
                        case rel =>
                          refine ⟨e + 1, by go_num, by omega, hle, fun j a b => ?_⟩
                          rcases (show j ≤ e ∨ j = e + 1 by omega) with l | l
                          · exact he.out j a l
                          · rw [l]; exact has_succ hnx
                        case measure => simp [intOf]; omega
                      · have hnf : hasB S ((e : Int) + 1) = false := by simpa using hnx
                        clear hnx
                        have HAD : Hid (rb S (n + 1) = rb S n ++ [(n, e)]) := rb_add HBG.out (fin_of HSM.out e1 he.out (has_succ_no hnf))
                        by_cases hen : n < e
                        · cases sb with
                          | true =>
                            have q1 := (dec_free n (by omega)).2.2.2.2.2
                            have q2 := (dec_free e (by omega)).2.2.2.2.2
                            have r1 := dec_sz n (by omega)
                            have r2 := dec_sz e (by omega)
                            go_wp2_with (first | (go_at_call 21; refine (In_yes _ _ _ hlt (by omega) (by omega)).mono ?_; rintro e w' ⟨rfl, rfl⟩) | (go_at_call 23; refine (Digits_dec _ (by omega) _).mono ?_; rintro e w' ⟨rfl, rfl⟩))
                            all_goals (try (exfalso; omega))
                            go_round
                            case rel => exact ⟨n + 1, (((o2 ++ ⟨#[44]⟩ : ByteArray) ++ ByteArray.mk (dec n).toArray) ++ (⟨#[45]⟩ ++ ByteArray.mk (dec e).toArray)), true, by go_num, by omega, by omega, rfl, rfl, by show _ = _; rw [HAD.out]; exact text_on_two h1.out (h2.out.1 (by trivial)) (by omega), by show _ ↔ _; rw [HAD.out]; simp, by simp only [ByteArray.size_append, sz1]; have r1 := dec_sz n (by omega); have r2 := dec_sz e (by omega); omega⟩
                            case measure => simp [intOf]; omega
                          | false =>
                            have q1 := (dec_free n (by omega)).2.2.2.2.2
                            have q2 := (dec_free e (by omega)).2.2.2.2.2
                            have r1 := dec_sz n (by omega)
                            have r2 := dec_sz e (by omega)
                            go_wp2_with (first | (go_at_call 21; refine (In_yes _ _ _ hlt (by omega) (by omega)).mono ?_; rintro e w' ⟨rfl, rfl⟩) | (go_at_call 23; refine (Digits_dec _ (by omega) _).mono ?_; rintro e w' ⟨rfl, rfl⟩))
                            all_goals (try (exfalso; omega))
                            go_round
                            case rel => exact ⟨n + 1, ((o2 ++ ByteArray.mk (dec n).toArray) ++ (⟨#[45]⟩ ++ ByteArray.mk (dec e).toArray)), true, by go_num, by omega, by omega, rfl, rfl, by show _ = _; rw [HAD.out]; exact text_first_two h1.out (nil_of h2.out) (by omega), by show _ ↔ _; rw [HAD.out]; simp, by simp only [ByteArray.size_append, sz1]; have r1 := dec_sz n (by omega); have r2 := dec_sz e (by omega); omega⟩
                            case measure => simp [intOf]; omega
                        · have HEN : Hid (e = n) := by show _ = _; omega
                          cases sb with
                          | true =>
                            have q1 := (dec_free n (by omega)).2.2.2.2.2
                            have q2 := (dec_free e (by omega)).2.2.2.2.2
                            have r1 := dec_sz n (by omega)
                            have r2 := dec_sz e (by omega)
                            go_wp2_with (first | (go_at_call 21; refine (In_yes _ _ _ hlt (by omega) (by omega)).mono ?_; rintro e w' ⟨rfl, rfl⟩) | (go_at_call 23; refine (Digits_dec _ (by omega) _).mono ?_; rintro e w' ⟨rfl, rfl⟩))
                            all_goals (try (exfalso; omega))
                            go_round
                            case rel => exact ⟨n + 1, ((o2 ++ ⟨#[44]⟩ : ByteArray) ++ ByteArray.mk (dec n).toArray), true, by go_num, by omega, by omega, rfl, rfl, by show _ = _; rw [HAD.out]; exact text_on_one h1.out (h2.out.1 (by trivial)) HEN.out, by show _ ↔ _; rw [HAD.out]; simp, by simp only [ByteArray.size_append, sz1]; have r1 := dec_sz n (by omega); have r2 := dec_sz e (by omega); omega⟩
                            case measure => simp [intOf]; omega
                          | false =>
                            have q1 := (dec_free n (by omega)).2.2.2.2.2
                            have q2 := (dec_free e (by omega)).2.2.2.2.2
                            have r1 := dec_sz n (by omega)
                            have r2 := dec_sz e (by omega)
                            go_wp2_with (first | (go_at_call 21; refine (In_yes _ _ _ hlt (by omega) (by omega)).mono ?_; rintro e w' ⟨rfl, rfl⟩) | (go_at_call 23; refine (Digits_dec _ (by omega) _).mono ?_; rintro e w' ⟨rfl, rfl⟩))
                            all_goals (try (exfalso; omega))
                            go_round
                            case rel => exact ⟨n + 1, (o2 ++ ByteArray.mk (dec n).toArray), true, by go_num, by omega, by omega, rfl, rfl, by show _ = _; rw [HAD.out]; exact text_first_one h1.out (nil_of h2.out) HEN.out, by show _ ↔ _; rw [HAD.out]; simp, by simp only [ByteArray.size_append]; have r1 := dec_sz n (by omega); have r2 := dec_sz e (by omega); omega⟩
                            case measure => simp [intOf]; omega
              · have hbf : hasB S (n : Int) = false := by simpa using hbit
                have HSK : Hid (rb S (n + 1) = rb S n) := rb_skip1 (has_nat_no hbf)
                clear hbit
                go_wp2_with (first | (go_at_call 21; first | (refine (In_yes _ _ _ hlt (by omega) (by omega)).mono ?_; rintro e w' ⟨rfl, rfl⟩) | (refine (In_neg _ _ _ (by omega)).mono ?_; rintro e w' ⟨rfl, rfl⟩)))
                go_round
                case rel => exact ⟨n + 1, o2, sb, by go_num, by omega, by omega, rfl, rfl, by show _ = _; rw [HSK.out]; exact h1.out, by show _ ↔ _; rw [HSK.out]; exact h2.out, by omega⟩
                case measure => simp [intOf]; omega
            · have hne : n = hi + 1 := by omega
              have HNE : Hid (n = hi + 1) := hne
              have HSZ : Hid (o2.size ≤ 400 * (k + 1)) := by show _ ≤ _; have := hBl; omega
              clear hne
              go_wp2_with fail
              go_roundw
              case rel => exact ⟨k + 1, d + nq, o2, by go_num, by omega, rfl, by show _ = _; rw [h1.out, HNE.out, ← HBASE.out, HT.out, ← HTOP.out], HSZ.out, HWN.out⟩
              case measure => simp [intOf]; omega
      · have hkz : (0 : Int) < (k : Int) := by omega
        have HBASE : Hid ((o ++ ⟨#[32]⟩ : ByteArray).data.toList ++ stx S (allI k) = Lib.join ((tl c).take (k + 1)) [32]) := by
          show _ = _
          rw [HTK.out, cat_data, ho.out, join_snoc _ (take_ne c hk0)]
          simp
        have hBl : (o ++ ⟨#[32]⟩ : ByteArray).size ≤ 400 * k + 1 := by rw [ByteArray.size_append, sz1]; omega
        obtain ⟨ob, hob⟩ : ∃ ob, (o ++ ⟨#[32]⟩ : ByteArray) = ob := ⟨_, rfl⟩
        rw [hob] at HBASE hBl
        clear hk0
        by_cases hfull : Full S lo hi
        · have HT : Hid (stx S (allI k) = [42]) := by show _ = _; unfold stx; rw [if_pos (HFU.out.1 hfull)]
          go_wp2_with fail
          go_quiet ((go_at_call 22; exact Calls.quiet_of_same (FullSet_yes S lo hi _ hlt (by omega) (by omega) (by omega) hfull)))
          clear hob
          go_wp2_with fail
          go_roundw
          case rel => exact ⟨k + 1, d + nq, ob ++ ⟨#[42]⟩, by go_num, by omega, rfl, by show _ = _; rw [cat_data, ← HBASE.out, HT.out], by rw [ByteArray.size_append, sz1]; omega, by rw [HWR.out, World.drewN_drewN]⟩
          case measure => simp [intOf]; omega
        · have HT : Hid (stx S (allI k) = Lib.join ((rns S).map rtx) [44]) := by show _ = _; unfold stx; rw [if_neg (fun e => hfull (HFU.out.2 e))]
          go_wp2_with fail
          go_quiet ((go_at_call 22; exact Calls.quiet_of_same (FullSet_no S lo hi _ hlt (by omega) (by omega) (by omega) hfull)))
          clear hob
          generalize decide (0 < k) = bb
          have hsk : (wr.drewN nq).cell? ⟨w1.heap.size, k, none⟩ = some (.int .u64 S) := hsk
          have hlk : (wr.drewN nq).cell? ⟨w1.heap.size + 1, k, none⟩ = some (.int .i64 lo) := hlk
          have hhk : (wr.drewN nq).cell? ⟨w1.heap.size + 1 + 1, k, none⟩ = some (.int .i64 hi) := hhk
          have HWN : Hid (wr.drewN nq = wq.drewN (d + nq)) := by show _ = _; rw [HWR.out, World.drewN_drewN]
          generalize wr.drewN nq = wn at *
          go_wp2_with fail
          go_loop [6, 8, 9] (fun v b i => ∃ (n : Nat) (o2 : ByteArray) (sb : Bool), i = .int .i64 n ∧ lo ≤ n ∧ n ≤ hi + 1 ∧ v = .string o2 ∧ b = .bool sb ∧ Hid (o2.data.toList = (ob).data.toList ++ Lib.join ((rb S n).map rtx) [44]) ∧ Hid (sb = true ↔ rb S n ≠ []) ∧ o2.size ≤ (ob).size + 6 * n) (fun _ _ i => 64 - (intOf i).toNat)
          case atStart => exact ⟨lo, ob, false, rfl, by omega, by omega, rfl, rfl, by show _ = _; rw [rb_low HLOW.out]; simp [Lib.join], by show _ ↔ _; rw [rb_low HLOW.out]; simp, by omega⟩
          case round =>
            obtain ⟨n, o2, sb, rfl, n1, n2, rfl, rfl, h1, h2, h3⟩ := hrel
            by_cases hn : n ≤ hi
            · by_cases hbit : hasB S (n : Int) = true
              · by_cases hprev : 1 ≤ n ∧ hasB S ((n : Int) - 1) = true
                · have HSK : Hid (rb S (n + 1) = rb S n) := rb_skip2 hprev.1 (has_pred hprev.1 hprev.2)
                  obtain ⟨hp1, hp2⟩ := hprev
                  go_wp2_with (first | (go_at_call 21; first | (refine (In_yes _ _ _ hlt (by omega) (by omega)).mono ?_; rintro e w' ⟨rfl, rfl⟩) | (refine (In_neg _ _ _ (by omega)).mono ?_; rintro e w' ⟨rfl, rfl⟩)))
                  go_round
                  case rel => exact ⟨n + 1, o2, sb, by go_num, by omega, by omega, rfl, rfl, by show _ = _; rw [HSK.out]; exact h1.out, by show _ ↔ _; rw [HSK.out]; exact h2.out, by omega⟩
                  case measure => simp [intOf]; omega
                · have hbeg : beg S n = true := beg_of (has_nat hbit) (fun h1 h2 => hprev ⟨h1, pred_has h1 h2⟩)
                  have HBG : Hid (beg S n = true) := hbeg
                  have HBN : Hid (S.testBit n = true) := has_nat hbit
                  clear hbeg
                  by_cases hn1 : 1 ≤ n
                  · have hpf : hasB S ((n : Int) - 1) = false := by
                      by_cases e : hasB S ((n : Int) - 1) = true
                      · exact absurd ⟨hn1, e⟩ hprev
                      · simpa using e
                    clear hprev
                    go_wp2_with (first | (go_at_call 21; first | (refine (In_yes _ _ _ hlt (by omega) (by omega)).mono ?_; rintro e w' ⟨rfl, rfl⟩) | (refine (In_neg _ _ _ (by omega)).mono ?_; rintro e w' ⟨rfl, rfl⟩)))
                    go_loop [10] (fun i => ∃ e : Nat, i = .int .i64 e ∧ n ≤ e ∧ e ≤ hi ∧ Hid (∀ j, n ≤ j → j ≤ e → S.testBit j = true)) (fun i => 64 - (intOf i).toNat)
                    case atStart => exact ⟨n, rfl, by omega, by omega, (fun j a b => by rw [show j = n by omega]; exact HBN.out)⟩
                    case round =>
                      obtain ⟨e, rfl, e1, e2, he⟩ := hrel
                      by_cases hnx : hasB S ((e : Int) + 1) = true
                      · have hle : e + 1 ≤ hi := HIN.out _ (has_succ hnx)
                        go_wp2_with (go_at_call 21; refine (In_yes _ _ _ hlt (by omega) (by omega)).mono ?_; rintro e w' ⟨rfl, rfl⟩)
                        go_round
                        case rel =>
                          refine ⟨e + 1, by go_num, by omega, hle, fun j a b => ?_⟩
                          rcases (show j ≤ e ∨ j = e + 1 by omega) with l | l
                          · exact he.out j a l
                          · rw [l]; exact has_succ hnx
                        case measure => simp [intOf]; omega
                      · have hnf : hasB S ((e : Int) + 1) = false := by simpa using hnx
                        clear hnx
                        have HAD : Hid (rb S (n + 1) = rb S n ++ [(n, e)]) := rb_add HBG.out (fin_of HSM.out e1 he.out (has_succ_no hnf))
                        by_cases hen : n < e
                        · cases sb with
                          | true =>
                            have q1 := (dec_free n (by omega)).2.2.2.2.2
                            have q2 := (dec_free e (by omega)).2.2.2.2.2
                            have r1 := dec_sz n (by omega)
                            have r2 := dec_sz e (by omega)
                            go_wp2_with (first | (go_at_call 21; refine (In_yes _ _ _ hlt (by omega) (by omega)).mono ?_; rintro e w' ⟨rfl, rfl⟩) | (go_at_call 23; refine (Digits_dec _ (by omega) _).mono ?_; rintro e w' ⟨rfl, rfl⟩))
                            all_goals (try (exfalso; omega))
                            go_round
                            case rel => exact ⟨n + 1, (((o2 ++ ⟨#[44]⟩ : ByteArray) ++ ByteArray.mk (dec n).toArray) ++ (⟨#[45]⟩ ++ ByteArray.mk (dec e).toArray)), true, by go_num, by omega, by omega, rfl, rfl, by show _ = _; rw [HAD.out]; exact text_on_two h1.out (h2.out.1 (by trivial)) (by omega), by show _ ↔ _; rw [HAD.out]; simp, by simp only [ByteArray.size_append, sz1]; have r1 := dec_sz n (by omega); have r2 := dec_sz e (by omega); omega⟩
                            case measure => simp [intOf]; omega
                          | false =>
                            have q1 := (dec_free n (by omega)).2.2.2.2.2
                            have q2 := (dec_free e (by omega)).2.2.2.2.2
                            have r1 := dec_sz n (by omega)
                            have r2 := dec_sz e (by omega)
                            go_wp2_with (first | (go_at_call 21; refine (In_yes _ _ _ hlt (by omega) (by omega)).mono ?_; rintro e w' ⟨rfl, rfl⟩) | (go_at_call 23; refine (Digits_dec _ (by omega) _).mono ?_; rintro e w' ⟨rfl, rfl⟩))
                            all_goals (try (exfalso; omega))
                            go_round
                            case rel => exact ⟨n + 1, ((o2 ++ ByteArray.mk (dec n).toArray) ++ (⟨#[45]⟩ ++ ByteArray.mk (dec e).toArray)), true, by go_num, by omega, by omega, rfl, rfl, by show _ = _; rw [HAD.out]; exact text_first_two h1.out (nil_of h2.out) (by omega), by show _ ↔ _; rw [HAD.out]; simp, by simp only [ByteArray.size_append, sz1]; have r1 := dec_sz n (by omega); have r2 := dec_sz e (by omega); omega⟩
                            case measure => simp [intOf]; omega
                        · have HEN : Hid (e = n) := by show _ = _; omega
                          cases sb with
                          | true =>
                            have q1 := (dec_free n (by omega)).2.2.2.2.2
                            have q2 := (dec_free e (by omega)).2.2.2.2.2
                            have r1 := dec_sz n (by omega)
                            have r2 := dec_sz e (by omega)
                            go_wp2_with (first | (go_at_call 21; refine (In_yes _ _ _ hlt (by omega) (by omega)).mono ?_; rintro e w' ⟨rfl, rfl⟩) | (go_at_call 23; refine (Digits_dec _ (by omega) _).mono ?_; rintro e w' ⟨rfl, rfl⟩))
                            all_goals (try (exfalso; omega))
                            go_round
                            case rel => exact ⟨n + 1, ((o2 ++ ⟨#[44]⟩ : ByteArray) ++ ByteArray.mk (dec n).toArray), true, by go_num, by omega, by omega, rfl, rfl, by show _ = _; rw [HAD.out]; exact text_on_one h1.out (h2.out.1 (by trivial)) HEN.out, by show _ ↔ _; rw [HAD.out]; simp, by simp only [ByteArray.size_append, sz1]; have r1 := dec_sz n (by omega); have r2 := dec_sz e (by omega); omega⟩
                            case measure => simp [intOf]; omega
                          | false =>
                            have q1 := (dec_free n (by omega)).2.2.2.2.2
                            have q2 := (dec_free e (by omega)).2.2.2.2.2
                            have r1 := dec_sz n (by omega)
                            have r2 := dec_sz e (by omega)
                            go_wp2_with (first | (go_at_call 21; refine (In_yes _ _ _ hlt (by omega) (by omega)).mono ?_; rintro e w' ⟨rfl, rfl⟩) | (go_at_call 23; refine (Digits_dec _ (by omega) _).mono ?_; rintro e w' ⟨rfl, rfl⟩))
                            all_goals (try (exfalso; omega))
                            go_round
                            case rel => exact ⟨n + 1, (o2 ++ ByteArray.mk (dec n).toArray), true, by go_num, by omega, by omega, rfl, rfl, by show _ = _; rw [HAD.out]; exact text_first_one h1.out (nil_of h2.out) HEN.out, by show _ ↔ _; rw [HAD.out]; simp, by simp only [ByteArray.size_append]; have r1 := dec_sz n (by omega); have r2 := dec_sz e (by omega); omega⟩
                            case measure => simp [intOf]; omega
                  · have hn0 : (n : Int) - 1 < 0 := by omega
                    clear hprev
                    go_wp2_with (first | (go_at_call 21; first | (refine (In_yes _ _ _ hlt (by omega) (by omega)).mono ?_; rintro e w' ⟨rfl, rfl⟩) | (refine (In_neg _ _ _ (by omega)).mono ?_; rintro e w' ⟨rfl, rfl⟩)))
                    go_loop [10] (fun i => ∃ e : Nat, i = .int .i64 e ∧ n ≤ e ∧ e ≤ hi ∧ Hid (∀ j, n ≤ j → j ≤ e → S.testBit j = true)) (fun i => 64 - (intOf i).toNat)
                    case atStart => exact ⟨n, rfl, by omega, by omega, (fun j a b => by rw [show j = n by omega]; exact HBN.out)⟩
                    case round =>
                      obtain ⟨e, rfl, e1, e2, he⟩ := hrel
                      by_cases hnx : hasB S ((e : Int) + 1) = true
                      · have hle : e + 1 ≤ hi := HIN.out _ (has_succ hnx)
                        go_wp2_with (go_at_call 21; refine (In_yes _ _ _ hlt (by omega) (by omega)).mono ?_; rintro e w' ⟨rfl, rfl⟩)
                        go_round
                        case rel =>
                          refine ⟨e + 1, by go_num, by omega, hle, fun j a b => ?_⟩
                          rcases (show j ≤ e ∨ j = e + 1 by omega) with l | l
                          · exact he.out j a l
                          · rw [l]; exact has_succ hnx
                        case measure => simp [intOf]; omega
                      · have hnf : hasB S ((e : Int) + 1) = false := by simpa using hnx
                        clear hnx
                        have HAD : Hid (rb S (n + 1) = rb S n ++ [(n, e)]) := rb_add HBG.out (fin_of HSM.out e1 he.out (has_succ_no hnf))
                        by_cases hen : n < e
                        · cases sb with
                          | true =>
                            have q1 := (dec_free n (by omega)).2.2.2.2.2
                            have q2 := (dec_free e (by omega)).2.2.2.2.2
                            have r1 := dec_sz n (by omega)
                            have r2 := dec_sz e (by omega)
                            go_wp2_with (first | (go_at_call 21; refine (In_yes _ _ _ hlt (by omega) (by omega)).mono ?_; rintro e w' ⟨rfl, rfl⟩) | (go_at_call 23; refine (Digits_dec _ (by omega) _).mono ?_; rintro e w' ⟨rfl, rfl⟩))
                            all_goals (try (exfalso; omega))
                            go_round
                            case rel => exact ⟨n + 1, (((o2 ++ ⟨#[44]⟩ : ByteArray) ++ ByteArray.mk (dec n).toArray) ++ (⟨#[45]⟩ ++ ByteArray.mk (dec e).toArray)), true, by go_num, by omega, by omega, rfl, rfl, by show _ = _; rw [HAD.out]; exact text_on_two h1.out (h2.out.1 (by trivial)) (by omega), by show _ ↔ _; rw [HAD.out]; simp, by simp only [ByteArray.size_append, sz1]; have r1 := dec_sz n (by omega); have r2 := dec_sz e (by omega); omega⟩
                            case measure => simp [intOf]; omega
                          | false =>
                            have q1 := (dec_free n (by omega)).2.2.2.2.2
                            have q2 := (dec_free e (by omega)).2.2.2.2.2
                            have r1 := dec_sz n (by omega)
                            have r2 := dec_sz e (by omega)
                            go_wp2_with (first | (go_at_call 21; refine (In_yes _ _ _ hlt (by omega) (by omega)).mono ?_; rintro e w' ⟨rfl, rfl⟩) | (go_at_call 23; refine (Digits_dec _ (by omega) _).mono ?_; rintro e w' ⟨rfl, rfl⟩))
                            all_goals (try (exfalso; omega))
                            go_round
                            case rel => exact ⟨n + 1, ((o2 ++ ByteArray.mk (dec n).toArray) ++ (⟨#[45]⟩ ++ ByteArray.mk (dec e).toArray)), true, by go_num, by omega, by omega, rfl, rfl, by show _ = _; rw [HAD.out]; exact text_first_two h1.out (nil_of h2.out) (by omega), by show _ ↔ _; rw [HAD.out]; simp, by simp only [ByteArray.size_append, sz1]; have r1 := dec_sz n (by omega); have r2 := dec_sz e (by omega); omega⟩
                            case measure => simp [intOf]; omega
                        · have HEN : Hid (e = n) := by show _ = _; omega
                          cases sb with
                          | true =>
                            have q1 := (dec_free n (by omega)).2.2.2.2.2
                            have q2 := (dec_free e (by omega)).2.2.2.2.2
                            have r1 := dec_sz n (by omega)
                            have r2 := dec_sz e (by omega)
                            go_wp2_with (first | (go_at_call 21; refine (In_yes _ _ _ hlt (by omega) (by omega)).mono ?_; rintro e w' ⟨rfl, rfl⟩) | (go_at_call 23; refine (Digits_dec _ (by omega) _).mono ?_; rintro e w' ⟨rfl, rfl⟩))
                            all_goals (try (exfalso; omega))
                            go_round
                            case rel => exact ⟨n + 1, ((o2 ++ ⟨#[44]⟩ : ByteArray) ++ ByteArray.mk (dec n).toArray), true, by go_num, by omega, by omega, rfl, rfl, by show _ = _; rw [HAD.out]; exact text_on_one h1.out (h2.out.1 (by trivial)) HEN.out, by show _ ↔ _; rw [HAD.out]; simp, by simp only [ByteArray.size_append, sz1]; have r1 := dec_sz n (by omega); have r2 := dec_sz e (by omega); omega⟩
                            case measure => simp [intOf]; omega
                          | false =>
                            have q1 := (dec_free n (by omega)).2.2.2.2.2
                            have q2 := (dec_free e (by omega)).2.2.2.2.2
                            have r1 := dec_sz n (by omega)
                            have r2 := dec_sz e (by omega)
                            go_wp2_with (first | (go_at_call 21; refine (In_yes _ _ _ hlt (by omega) (by omega)).mono ?_; rintro e w' ⟨rfl, rfl⟩) | (go_at_call 23; refine (Digits_dec _ (by omega) _).mono ?_; rintro e w' ⟨rfl, rfl⟩))
                            all_goals (try (exfalso; omega))
                            go_round
                            case rel => exact ⟨n + 1, (o2 ++ ByteArray.mk (dec n).toArray), true, by go_num, by omega, by omega, rfl, rfl, by show _ = _; rw [HAD.out]; exact text_first_one h1.out (nil_of h2.out) HEN.out, by show _ ↔ _; rw [HAD.out]; simp, by simp only [ByteArray.size_append]; have r1 := dec_sz n (by omega); have r2 := dec_sz e (by omega); omega⟩
                            case measure => simp [intOf]; omega
              · have hbf : hasB S (n : Int) = false := by simpa using hbit
                have HSK : Hid (rb S (n + 1) = rb S n) := rb_skip1 (has_nat_no hbf)
                clear hbit
                go_wp2_with (first | (go_at_call 21; first | (refine (In_yes _ _ _ hlt (by omega) (by omega)).mono ?_; rintro e w' ⟨rfl, rfl⟩) | (refine (In_neg _ _ _ (by omega)).mono ?_; rintro e w' ⟨rfl, rfl⟩)))
                go_round
                case rel => exact ⟨n + 1, o2, sb, by go_num, by omega, by omega, rfl, rfl, by show _ = _; rw [HSK.out]; exact h1.out, by show _ ↔ _; rw [HSK.out]; exact h2.out, by omega⟩
                case measure => simp [intOf]; omega
            · have hne : n = hi + 1 := by omega
              have HNE : Hid (n = hi + 1) := hne
              have HSZ : Hid (o2.size ≤ 400 * (k + 1)) := by show _ ≤ _; have := hBl; omega
              clear hne
              go_wp2_with fail
              go_roundw
              case rel => exact ⟨k + 1, d + nq, o2, by go_num, by omega, rfl, by show _ = _; rw [h1.out, HNE.out, ← HBASE.out, HT.out, ← HTOP.out], HSZ.out, HWN.out⟩
              case measure => simp [intOf]; omega
    · have hke : k = 5 := by omega
      subst hke
      go_wp2_with fail
      go_ret
      refine ⟨str_ret ?_, by rw [HWR.out]; exact below_draws hbq d⟩
      rw [← bytes_mk o, ho.out]
      rfl
end Go.Proofs.YthebcdadoinflaaDoor
