/- The reference's numbers as texts: plainDigits, Decimal, IntOf, walked. -/
import Derived.Test.YtmhidmocmolgfaaDoorNrr
import Derived.Test.YtmhidmocmolgfaaDoorPcu
namespace Go.Proofs.YtmhidmocmolgfaaDoor
open Go.RowKit Ndm Txt
set_option linter.unusedSectionVars false
set_option linter.unusedVariables false

theorem digit_cut {r : Nat} (h : r < 10) : (ByteArray.mk #[48, 49, 50, 51, 52, 53, 54, 55, 56, 57]).extract r (r + 1) = ByteArray.mk [dgt r].toArray := by
  rcases (show r = 0 ∨ r = 1 ∨ r = 2 ∨ r = 3 ∨ r = 4 ∨ r = 5 ∨ r = 6 ∨ r = 7 ∨ r = 8 ∨ r = 9 by omega) with e | e | e | e | e | e | e | e | e | e <;> subst e <;> decide
theorem dec_len {u : Nat} (h : u < 18446744073709551616) : (Lib.decDigits u).length ≤ 20 := by
  rw [Lib.decDigits_length]
  exact Lib.nDigits_le20 u h

theorem slice_dig (r : Nat) (hr : r < 10) (w : World) : (Instr.slice 9 (.string ⟨#[48, 49, 50, 51, 52, 53, 54, 55, 56, 57]⟩) (some (.int .u64 (r : Int))) (some (.int .u64 ((r : Int) + 1))) none).run Tryd.prog w = .ok (.string ⟨#[dgt r]⟩) w := by
  rcases (show r = 0 ∨ r = 1 ∨ r = 2 ∨ r = 3 ∨ r = 4 ∨ r = 5 ∨ r = 6 ∨ r = 7 ∨ r = 8 ∨ r = 9 by omega) with e | e | e | e | e | e | e | e | e | e <;> subst e <;> kernel_rfl
theorem ret_str {a b : ByteArray} (h : a = b) : Ending.returned (.string a) = .returned (.string b) := by rw [h]
set_option maxHeartbeats 1000000 in
set_option maxRecDepth 100000 in
theorem plainD_small (u : Nat) (w : World) (hu : u < 10) : Calls Tryd.prog 71 #[.int .u64 u] w fun e w' => e = .returned (.string ⟨(Lib.decDigits u).toArray⟩) ∧ w' = w := by
  have HD : Hid ((ByteArray.mk #[48, 49, 50, 51, 52, 53, 54, 55, 56, 57]).extract u (u + 1) = ⟨(Lib.decDigits u).toArray⟩) := by
    show _ = _
    rw [digit_cut hu, Lib.decDigits_one hu, dgt_small hu]
  rcases (show u = 0 ∨ u = 1 ∨ u = 2 ∨ u = 3 ∨ u = 4 ∨ u = 5 ∨ u = 6 ∨ u = 7 ∨ u = 8 ∨ u = 9 by omega) with e | e | e | e | e | e | e | e | e | e <;> subst e <;>
  · go_enter Tryd.func71, Tryd.ntmps71
    go_wp2_with fail
    go_ret
    exact ⟨ret_str HD.out, rfl⟩

set_option maxHeartbeats 1000000 in
set_option maxRecDepth 100000 in
theorem plainD_big (u : Nat) (w : World) (hu : ¬ u < 10) (hb : (u : Int) ≤ 18446744073709551615) (HL : Hid ((Lib.decDigits (u / 10)).length ≤ 20)) (hr : Calls Tryd.prog 71 #[.int .u64 (u / 10 : Nat)] w fun e w' => e = .returned (.string ⟨(Lib.decDigits (u / 10)).toArray⟩) ∧ w' = w) : Calls Tryd.prog 71 #[.int .u64 u] w fun e w' => e = .returned (.string ⟨(Lib.decDigits u).toArray⟩) ∧ w' = w := by
  have HD : Hid ((ByteArray.mk #[48, 49, 50, 51, 52, 53, 54, 55, 56, 57]).extract (u % 10) (u % 10 + 1) = ⟨#[dgt (u % 10)]⟩) := digit_cut (Nat.mod_lt _ (by decide))
  have HE : Hid (Lib.decDigits u = Lib.decDigits (u / 10) ++ [dgt (u % 10)]) := by
    show _ = _
    rw [Lib.decDigits, dif_neg hu, ← dgt_small (Nat.mod_lt _ (by decide))]
  have hl := HL.out
  have hsl := fun w1 => slice_dig (u % 10) (Nat.mod_lt _ (by decide)) w1
  rw [show ((u % 10 : Nat) : Int) = (u : Int) % 10 by omega] at hsl
  rw [show ((u / 10 : Nat) : Int) = (u : Int) / 10 by omega] at hr
  generalize Lib.decDigits (u / 10) = d at *
  clear HD
  generalize dgt (u % 10) = q at *
  have hsz : (ByteArray.mk d.toArray).size ≤ 20 := by rw [mk_size]; exact hl
  have hsq : (ByteArray.mk #[q]).size ≤ 1 := Nat.le_refl _
  go_enter Tryd.func71, Tryd.ntmps71
  go_wp2_with (go_at_call 71; refine hr.mono ?_; rintro e w' ⟨rfl, rfl⟩; clear hr)
  go_ret
  exact ⟨ret_str (by rw [HE.out, show (#[q] : Array UInt8) = [q].toArray from rfl, ByteArray.mk_append_mk]), rfl⟩

theorem plainD_any (k : Nat) : ∀ (u : Nat) (w : World), u ≤ k → u < 18446744073709551616 → Calls Tryd.prog 71 #[.int .u64 u] w fun e w' => e = .returned (.string ⟨(Lib.decDigits u).toArray⟩) ∧ w' = w := by
  induction k with
  | zero => intro u w hk _; exact plainD_small u w (by omega)
  | succ k ih =>
    intro u w hk hb
    by_cases hu : u < 10
    · exact plainD_small u w hu
    · exact plainD_big u w hu (by omega) (dec_len (by omega)) (ih (u / 10) w (by omega) (by omega))

set_option maxHeartbeats 1000000 in
set_option maxRecDepth 100000 in
theorem Decimal_pos (v : Nat) (w : World) (hv : (v : Int) ≤ 9223372036854775807) : Calls Tryd.prog 42 #[.int .i64 v] w fun e w' => e = .returned (.string ⟨(Lib.decDigits v).toArray⟩) ∧ w' = w := by
  have hp := plainD_any v v w (Nat.le_refl _) (by omega)
  generalize Lib.decDigits v = d at *
  go_enter Tryd.func42, Tryd.ntmps42
  go_wp2_with (go_at_call 71; refine hp.mono ?_; rintro e w' ⟨rfl, rfl⟩; clear hp)
  go_ret
  exact ⟨rfl, rfl⟩
set_option maxHeartbeats 1000000 in
set_option maxRecDepth 100000 in
theorem Decimal_neg (n : Int) (w : World) (hn : n < 0) (hv : -9223372036854775808 ≤ n) : Calls Tryd.prog 42 #[.int .i64 n] w fun e w' => ∃ s : ByteArray, e = .returned (.string s) ∧ w' = w := by
  have hp := plainD_any (-n).toNat (-n).toNat w (Nat.le_refl _) (by omega)
  have hl := dec_len (u := (-n).toNat) (by omega)
  rw [show (((-n).toNat : Nat) : Int) = -(n + 1) + 1 by omega] at hp
  generalize Lib.decDigits (-n).toNat = d at *
  go_enter Tryd.func42, Tryd.ntmps42
  go_wp2_with (go_at_call 71; refine hp.mono ?_; rintro e w' ⟨rfl, rfl⟩; clear hp)
  all_goals (try (exfalso; omega))
  go_ret
  exact ⟨_, rfl, rfl⟩
theorem nDig_le : ∀ (k u : Nat), u < 10 ^ (k + 1) → Lib.nDigits u ≤ k + 1
  | 0, u, h => by rw [Lib.nDigits_small (by simpa using h)]; omega
  | k + 1, u, h => by
    by_cases hu : u < 10
    · rw [Lib.nDigits_small hu]; omega
    · rw [Lib.nDigits_big hu]
      have := nDig_le k (u / 10) (by rw [Nat.pow_succ] at h; omega)
      omega
theorem psN_nrd {l : List UInt8} {n : Int} (h : psN l = some n) : nrd l 0 = some n ∧ l.length ≤ 19 ∧ Lib.decDigits n.toNat = l ∧ 0 < n ∧ n ≤ 9223372036854775807 := by
  obtain ⟨h0, h1, h2⟩ := psN_some h
  have e : Lib.itoa n = Lib.decDigits n.toNat := by
    unfold Lib.itoa
    rw [if_neg (by omega)]
  rw [e] at h2
  refine ⟨?_, ?_, h2.symm, h0, h1⟩
  · rw [h2, dec_nrd _ _ (Nat.le_refl _)]
    congr 1
    omega
  · rw [h2, Lib.decDigits_length]
    exact nDig_le 18 _ (by omega)
/-- What IntOf answers of a text: the number, where it is above 0 and told in the one way; else none, or one that is not above 0. -/
def IoR (l : List UInt8) (v : Int) (ok : Bool) : Prop := (∀ n, psN l = some n → v = n ∧ ok = true) ∧ (psN l = none → ok = false ∨ v ≤ 0)
theorem ioR_fail {l : List UInt8} {v : Int} (h : psN l = none) : IoR l v false := And.intro (fun n e => by rw [h] at e; cases e) (fun _ => Or.inl rfl)
theorem ret_io {a b : Int} {p q : Bool} (h : a = b) (h2 : p = q) : Ending.returned (.tuple #[.int .i64 a, .bool p]) = .returned (.tuple #[.int .i64 b, .bool q]) := by rw [h, h2]

set_option maxHeartbeats 2000000 in
set_option maxRecDepth 100000 in
theorem IntOf_pos (s : ByteArray) (w : World) (hs : (s.size : Int) ≤ 2000000) (h0 : ∀ h : 0 < s.size, s[0] ≠ 45) : Calls Tryd.prog 40 #[.string s] w fun e w' => (∃ (v : Int) (ok : Bool), e = .returned (.tuple #[.int .i64 v, .bool ok]) ∧ Hid (IoR s.data.toList v ok)) ∧ w' = w := by
  by_cases hz : s.size = 0
  · obtain ⟨⟨l⟩⟩ := s
    obtain rfl : l = [] := by simpa [ByteArray.size] using hz
    have HI : Hid (IoR [] 0 false) := ioR_fail rfl
    clear hs h0 hz
    go_enter Tryd.func40, Tryd.ntmps40
    go_wp2_with fail
    go_loop [6, 22] (fun n i => n = .int .u64 0 ∧ i = .int .i64 0) (fun _ _ => 0)
    case atStart => exact ⟨rfl, rfl⟩
    case round =>
      obtain ⟨rfl, rfl⟩ := hrel
      go_wp2_with fail
      go_ret2
      exact ⟨⟨_, Or.inl ⟨ret_io rfl rfl, HI⟩⟩, rfl⟩
  · have hne : s.toList.isEmpty = false := by
      rw [ByteArray.toList_eq]
      cases hl : s.data.toList with
      | nil => exfalso; apply hz; have : s.data.toList.length = 0 := by rw [hl]; rfl
               simpa using this
      | cons _ _ => rfl
    have hpos : 0 < s.size := by omega
    have hb : ((s[0].toNat : Int) == 45) = false := by
      have h3 : s[0].toNat ≠ 45 := fun h => h0 hpos (UInt8.toNat_inj.1 h)
      simp
      omega
    clear h0 hz
    go_enter Tryd.func40, Tryd.ntmps40
    go_wp2_with fail
    go_loop [6, 22] (fun n i => ∃ (k : Nat) (a : Int), k ≤ s.size ∧ (k : Int) ≤ 19 ∧ i = .int .i64 k ∧ n = .int .u64 a ∧ Hid (nrd (s.data.toList.take k) 0 = some a) ∧ 0 ≤ a ∧ a ≤ 9999999999999999999) (fun _ i => s.size - (intOf i).toNat)
    case atStart => exact ⟨0, 0, Nat.zero_le _, by omega, rfl, rfl, rfl, by omega, by omega⟩
    case round =>
      obtain ⟨k, a, hk, hk2, rfl, rfl, HA, ha0, ha9⟩ := hrel
      by_cases hlt : k < s.size
      · have HS : Hid (nrd (s.data.toList.take (k + 1)) 0 = if 48 ≤ (s[k].toNat : Int) ∧ (s[k].toNat : Int) ≤ 57 then some (a * 10 + ((s[k].toNat : Int) - 48)) else none) := by
          rw [take_snocD s k hlt]; exact nrd_snoc HA.out
        rcases (show ((s[k].toNat : Int) < 48 ∨ 48 ≤ (s[k].toNat : Int) ∧ 57 < (s[k].toNat : Int)) ∨ 48 ≤ (s[k].toNat : Int) ∧ (s[k].toNat : Int) ≤ 57 by omega) with hbad | hgood
        · have HI : Hid (IoR s.data.toList 0 false) := by
            refine ioR_fail ?_
            cases hp : psN s.data.toList with
            | none => rfl
            | some n =>
              have hq := HS.out
              rw [if_neg (by omega)] at hq
              have := nrd_prefix_none (s.data.toList.drop (k + 1)) hq
              rw [List.take_append_drop, (psN_nrd hp).1] at this
              cases this
          clear HS HA
          rcases hbad with hbad | ⟨hbad, hbad'⟩
          all_goals
            go_wp2_with fail
            go_ret2
            exact ⟨⟨_, Or.inl ⟨ret_io rfl rfl, HI⟩⟩, rfl⟩
        · have hq := HS.out
          rw [if_pos hgood] at hq
          obtain ⟨g1, g2⟩ := hgood
          by_cases hk18 : (18 : Int) < (k : Int)
          · have HI : Hid (IoR s.data.toList 0 false) := by
              refine ioR_fail ?_
              cases hp : psN s.data.toList with
              | none => rfl
              | some n =>
                have := (psN_nrd hp).2.1
                simp at this
                omega
            clear HS HA hq
            go_wp2_with fail
            go_ret2
            exact ⟨⟨_, Or.inl ⟨ret_io rfl rfl, HI⟩⟩, rfl⟩
          · have hbd := nrd_bd _ 0 _ 19 (by simp; omega) (by omega) hq
            have HQ : Hid (nrd (s.data.toList.take (k + 1)) 0 = some (a * 10 + ((s[k].toNat : Int) - 48))) := hq
            have hup : a * 10 + ((s[k].toNat : Int) - 48) ≤ 9999999999999999999 := by have := hbd.2; omega
            clear hq HS hbd HA
            go_wp2_with fail
            go_round
            case rel => exact ⟨k + 1, a * 10 + ((s[k].toNat : Int) - 48), by omega, by omega, by go_num, by go_num, HQ, by omega, hup⟩
            case measure => simp [intOf]; omega
      · have hka : nrd s.data.toList 0 = some a := by
          have := HA.out
          rw [show k = s.size by omega, take_allD] at this
          exact this
        have HN : Hid (∀ n, psN s.data.toList = some n → n = a ∧ Lib.decDigits a.toNat = s.data.toList ∧ 0 < a ∧ a ≤ 9223372036854775807) := by
          intro n hn
          obtain ⟨p1, _, p3, p4, p5⟩ := psN_nrd hn
          rw [hka] at p1
          cases p1
          exact ⟨rfl, p3, p4, p5⟩
        have HA2 : Hid (nrd s.data.toList 0 = some a) := hka
        clear hka HA
        rcases (show 9223372036854775808 < a ∨ a = 9223372036854775808 ∨ a ≤ 9223372036854775807 by omega) with hc | hc | hc
        · have HI : Hid (IoR s.data.toList 0 false) := by
            refine ioR_fail ?_
            cases hp : psN s.data.toList with
            | none => rfl
            | some n => have := (HN.out n hp).2.2.2; omega
          go_wp2_with fail
          go_ret2
          exact ⟨⟨_, Or.inl ⟨ret_io rfl rfl, HI⟩⟩, rfl⟩
        · have HI : Hid (IoR s.data.toList 0 false) := by
            refine ioR_fail ?_
            cases hp : psN s.data.toList with
            | none => rfl
            | some n => have := (HN.out n hp).2.2.2; omega
          subst hc
          clear ha0 ha9
          go_wp2_with fail
          go_ret2
          exact ⟨⟨_, Or.inl ⟨ret_io rfl rfl, HI⟩⟩, rfl⟩
        · obtain ⟨v, rfl⟩ := Int.eq_ofNat_of_zero_le ha0
          have hde := fun w1 => Decimal_pos v w1 hc
          have HI : Hid (IoR s.data.toList v (Lib.decDigits v == s.data.toList)) := by
            refine ⟨fun n hn => ?_, fun hn => ?_⟩
            · obtain ⟨e1, e2, _⟩ := HN.out n hn
              exact ⟨e1.symm, by simpa using e2⟩
            · by_cases hv : v = 0
              · exact Or.inr (by omega)
              · refine Or.inl ?_
                rw [beq_eq_false_iff_ne]
                intro e
                have := psN_itoa (n := v) (by omega) hc
                rw [show Lib.itoa (v : Int) = Lib.decDigits v by unfold Lib.itoa; rw [if_neg (by omega)]; rfl, e, hn] at this
                cases this
          have htl : s.toList = s.data.toList := ByteArray.toList_eq s
          have hdl : s.data.toList = s.toList := htl.symm
          have HIo : Hid (∀ b : Bool, b = (Lib.decDigits v == s.toList) → IoR s.data.toList v b) := fun b hb => by
            rw [hb, htl]
            exact HI
          clear HI hdl
          generalize Lib.decDigits v = d at *
          clear htl HN HA2
          go_wp2_with (go_at_call 42; refine (hde _).mono ?_; rintro e w' ⟨rfl, rfl⟩; clear hde)
          go_ret2
          exact ⟨⟨_, _, ret_io rfl rfl, HIo.out _ rfl⟩, rfl⟩
end Go.Proofs.YtmhidmocmolgfaaDoor
