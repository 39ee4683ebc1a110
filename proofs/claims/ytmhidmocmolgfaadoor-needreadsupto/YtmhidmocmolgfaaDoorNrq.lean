/- The reference's IntOf of any text, walked. -/
import Derived.Test.YtmhidmocmolgfaaDoorNrp
namespace Go.Proofs.YtmhidmocmolgfaaDoor
open Go.RowKit Ndm Txt
set_option linter.unusedSectionVars false
set_option linter.unusedVariables false

theorem Decimal_low (n : Int) (w : World) (hn : n ≤ 0) (hv : -9223372036854775808 ≤ n) : Calls Tryd.prog 42 #[.int .i64 n] w fun e w' => ∃ s : ByteArray, e = .returned (.string s) ∧ w' = w := by
  by_cases h : n < 0
  · exact Decimal_neg n w h hv
  · obtain rfl : n = 0 := by omega
    exact (Decimal_pos 0 w (by omega)).mono fun e w' ⟨h1, h2⟩ => ⟨_, h1, h2⟩
theorem psN_sign {l : List UInt8} (h : l.getD 0 0 = 45) : psN l = none := by
  cases hp : psN l with
  | none => rfl
  | some n =>
    have := (psN_nrd hp).1
    cases l with
    | nil => cases h
    | cons c r =>
      obtain rfl : c = 45 := h
      rw [nrd] at this
      rw [if_neg (by decide)] at this
      cases this
theorem ioR_low {l : List UInt8} {v : Int} {ok : Bool} (h : psN l = none) (h2 : ok = false ∨ v ≤ 0) : IoR l v ok := And.intro (fun n e => by rw [h] at e; cases e) (fun _ => h2)

set_option maxHeartbeats 2000000 in
set_option maxRecDepth 100000 in
theorem IntOf_low (s : ByteArray) (w : World) (hs : (s.size : Int) ≤ 2000000) (hpos : 0 < s.size) (h0 : s[0] = 45) : Calls Tryd.prog 40 #[.string s] w fun e w' => (∃ (v : Int) (ok : Bool), e = .returned (.tuple #[.int .i64 v, .bool ok]) ∧ Hid (IoR s.data.toList v ok)) ∧ w' = w := by
  have hpn : psN s.data.toList = none := psN_sign (by
    rw [List.getD_eq_getElem?_getD, List.getElem?_eq_getElem (by simp; omega)]
    exact h0)
  have HI : Hid (∀ v, IoR s.data.toList v false) := fun v => ioR_fail hpn
  have HI2 : Hid (∀ (v : Int) (ok : Bool), v ≤ 0 → IoR s.data.toList v ok) := fun v ok h => ioR_low hpn (Or.inr h)
  have hne : s.toList.isEmpty = false := by
    rw [ByteArray.toList_eq]
    cases hl : s.data.toList with
    | nil =>
      exfalso
      have h1 : s.data.toList.length = 0 := by rw [hl]; rfl
      have h2 : s.data.toList.length = s.size := by simp
      omega
    | cons _ _ => rfl
  have hb : ((s[0].toNat : Int) == 45) = true := by rw [h0]; rfl
  have hts : s.size - 1 = (s.extract 1 s.size).size := by simp
  have htz : ((s.extract 1 s.size).size : Int) ≤ 2000000 := by rw [← hts]; omega
  have HTS : Hid (s.size - 1 = (s.extract 1 s.size).size) := hts
  clear hts
  have hsp : (1 : Int) ≤ (s.size : Int) := by omega
  clear h0 hpn
  go_enter Tryd.func40, Tryd.ntmps40
  go_wp2_with fail
  obtain ⟨t, ht⟩ : ∃ t, s.extract 1 s.size = t := ⟨_, rfl⟩
  have hts := HTS.out
  simp only [hts]
  simp only [ht] at htz ⊢
  clear ht hts HTS
  go_loop [6, 22] (fun n i => ∃ (k : Nat) (a : Int), k ≤ t.size ∧ (k : Int) ≤ 19 ∧ i = .int .i64 k ∧ n = .int .u64 a ∧ Hid (nrd (t.data.toList.take k) 0 = some a) ∧ 0 ≤ a ∧ a ≤ 9999999999999999999) (fun _ i => t.size - (intOf i).toNat)
  case atStart => exact ⟨0, 0, Nat.zero_le _, by omega, rfl, rfl, rfl, by omega, by omega⟩
  case round =>
    obtain ⟨k, a, hk, hk2, rfl, rfl, HA, ha0, ha9⟩ := hrel
    by_cases hlt : k < t.size
    · have HS : Hid (nrd (t.data.toList.take (k + 1)) 0 = if 48 ≤ (t[k].toNat : Int) ∧ (t[k].toNat : Int) ≤ 57 then some (a * 10 + ((t[k].toNat : Int) - 48)) else none) := by
        rw [take_snocD t k hlt]; exact nrd_snoc HA.out
      rcases (show ((t[k].toNat : Int) < 48 ∨ 48 ≤ (t[k].toNat : Int) ∧ 57 < (t[k].toNat : Int)) ∨ 48 ≤ (t[k].toNat : Int) ∧ (t[k].toNat : Int) ≤ 57 by omega) with hbad | hgood
      · clear HS HA
        rcases hbad with hbad | ⟨hbad, hbad'⟩
        all_goals
          go_wp2_with fail
          go_ret2
          exact ⟨⟨_, Or.inl ⟨ret_io rfl rfl, HI.out _⟩⟩, rfl⟩
      · have hq := HS.out
        rw [if_pos hgood] at hq
        obtain ⟨g1, g2⟩ := hgood
        by_cases hk18 : (18 : Int) < (k : Int)
        · clear HS HA hq
          go_wp2_with fail
          go_ret2
          exact ⟨⟨_, Or.inl ⟨ret_io rfl rfl, HI.out _⟩⟩, rfl⟩
        · have hbd := nrd_bd _ 0 _ 19 (by simp; omega) (by omega) hq
          have HQ : Hid (nrd (t.data.toList.take (k + 1)) 0 = some (a * 10 + ((t[k].toNat : Int) - 48))) := hq
          have hup : a * 10 + ((t[k].toNat : Int) - 48) ≤ 9999999999999999999 := by have := hbd.2; omega
          clear hq HS hbd HA
          go_wp2_with fail
          go_round
          case rel => exact ⟨k + 1, a * 10 + ((t[k].toNat : Int) - 48), by omega, by omega, by go_num, by go_num, HQ, by omega, hup⟩
          case measure => simp [intOf]; omega
    · clear HA
      cases hte : t.toList.isEmpty with
      | true =>
        go_wp2_with fail
        go_ret2
        exact ⟨⟨_, Or.inl ⟨ret_io rfl rfl, HI.out _⟩⟩, rfl⟩
      | false =>
        rcases (show 9223372036854775808 < a ∨ a = 9223372036854775808 ∨ a ≤ 9223372036854775807 by omega) with hc | hc | hc
        · go_wp2_with fail
          go_ret2
          exact ⟨⟨_, Or.inl ⟨ret_io rfl rfl, HI.out _⟩⟩, rfl⟩
        · subst hc
          clear ha0 ha9
          have hwz : wrap64 (-wrap64 9223372036854775808) ≤ 0 := by unfold wrap64; omega
          have HWZ : Hid (wrap64 (-wrap64 9223372036854775808) ≤ 0) := hwz
          clear hwz
          have hde := fun w1 => Decimal_low (wrap64 (-wrap64 9223372036854775808)) w1 (by unfold wrap64; omega) (by unfold wrap64; omega)
          go_wp2_with (go_at_call 42; refine (hde _).mono ?_; rintro e w' ⟨str, rfl, rfl⟩; clear hde)
          go_ret2
          exact ⟨⟨_, _, ret_io rfl rfl, HI2.out _ _ HWZ.out⟩, rfl⟩
        · have hde := fun w1 => Decimal_low (-a) w1 (by omega) (by omega)
          go_wp2_with (go_at_call 42; refine (hde _).mono ?_; rintro e w' ⟨str, rfl, rfl⟩; clear hde)
          go_ret2
          exact ⟨⟨_, _, ret_io rfl rfl, HI2.out _ _ (by omega)⟩, rfl⟩

theorem IntOf_any (s : ByteArray) (w : World) (hs : (s.size : Int) ≤ 2000000) : Calls Tryd.prog 40 #[.string s] w fun e w' => (∃ (v : Int) (ok : Bool), e = .returned (.tuple #[.int .i64 v, .bool ok]) ∧ Hid (IoR s.data.toList v ok)) ∧ w' = w := by
  by_cases hp : 0 < s.size
  · by_cases h0 : s[0] = 45
    · exact IntOf_low s w hs hp h0
    · exact IntOf_pos s w hs (fun _ => h0)
  · exact IntOf_pos s w hs (fun h => absurd h hp)
end Go.Proofs.YtmhidmocmolgfaaDoor
