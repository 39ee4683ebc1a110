/- What the reference's Digits and twoDigits answer: contracts, each proved by a walk over its own text. -/
import Derived.Test.YthebcdadoinflaaDoorPcs
import Derived.Test.YthebcdadoinflaaDoorRefStr
namespace Go.Proofs.YthebcdadoinflaaDoor
open Go.RowKit Cal Crn Txt

theorem dec_one {u : Nat} (h : u < 10) : dec u = [dgt u] := by
  unfold dec dgt
  rw [if_pos h, Nat.mod_eq_of_lt h]
theorem dec_two {u : Nat} (h : 10 ≤ u) (h' : u < 100) : dec u = [dgt (u / 10), dgt u] := by
  unfold dec dgt
  rw [if_neg (by omega), Nat.mod_eq_of_lt (show u / 10 < 10 by omega)]

set_option maxHeartbeats 800000 in
theorem Digits_one (u : Nat) (hu : u < 10) (w : World) :
    Calls Tryd.prog 23 #[.int .i64 u, .int .i64 1] w fun e w' => e = .returned (.string ⟨(dec u).toArray⟩) ∧ w' = w := by
  have := Digits_any u 1 (by omega) (by omega) w
  rw [show dlast u 1 = [dgt u] by simp [dlast]] at this
  rw [dec_one hu]
  exact this

set_option maxHeartbeats 800000 in
theorem Digits_two (u : Nat) (h : 10 ≤ u) (h' : u < 100) (w : World) :
    Calls Tryd.prog 23 #[.int .i64 u, .int .i64 1] w fun e w' => e = .returned (.string ⟨(dec u).toArray⟩) ∧ w' = w := by
  have hd := dec_two h h'
  generalize dec u = r at *
  have hl : r.length = 2 := by rw [hd]; rfl
  have HD : Hid (r = dgt (u / 10) :: [dgt u]) := hd
  clear hd
  go_enter Tryd.func23, Tryd.ntmps23
  go_wp2
  go_loop [0, 5] (fun n s => (n = .int .i64 u ∧ s = .string ⟨#[]⟩) ∨ (n = .int .i64 (u / 10 : Nat) ∧ s = .string ⟨#[dgt u]⟩) ∨ (n = .int .i64 0 ∧ s = .string ⟨r.toArray⟩)) (fun n _ => (intOf n).toNat)
  case atStart => exact Or.inl ⟨rfl, rfl⟩
  case round =>
    rcases hrel with ⟨rfl, rfl⟩ | ⟨rfl, rfl⟩ | ⟨rfl, rfl⟩
    · go_wp2
      refine ⟨Or.inr (Or.inl ⟨by go_num, digit_join (l := []) (r := [dgt u]) rfl⟩), ?_⟩
      simp [intOf]
      omega
    · have hp : 0 < u / 10 := by omega
      have hlt : u / 10 < 10 := by omega
      have hz : u / 10 / 10 = 0 := by omega
      have HZ : Hid (u / 10 / 10 = 0) := hz
      clear hz
      generalize u / 10 = v at *
      go_wp2
      refine ⟨Or.inr (Or.inr ⟨by have e := HZ.out; go_num, digit_join (l := [dgt u]) HD.out⟩), ?_⟩
      simp [intOf]
      omega
    · go_wp2
      go_ret
      exact ⟨rfl, rfl⟩
theorem Digits_dec (u : Nat) (h : u < 100) (w : World) :
    Calls Tryd.prog 23 #[.int .i64 u, .int .i64 1] w fun e w' => e = .returned (.string ⟨(dec u).toArray⟩) ∧ w' = w := by
  by_cases h1 : u < 10
  · exact Digits_one u h1 w
  · exact Digits_two u (by omega) h w

theorem dec_of_one {a : UInt8} {v : Int} (h : nrd [a] 0 = some v) : ∃ u : Nat, v = u ∧ u < 10 ∧ dec u = [a] := by
  unfold nrd at h
  split at h
  · next hd =>
    simp only [nrd, Option.some.injEq] at h
    refine ⟨a.toNat - 48, by omega, by omega, ?_⟩
    rw [dec_one (by omega)]
    have := byte_of_digit (c := a) (k := a.toNat - 48) (by omega) (by omega)
    rw [← this]
  · cases h
theorem num_of_dec {l : List UInt8} {v : Int} (hp : 1 ≤ l.length) (hl : l.length ≤ 2) (h : nrd l 0 = some v) : ∃ u : Nat, v = u ∧ u < 100 ∧ (if dec u = l then numO l = some v else numO l = none) := by
  match l, hp, hl, h with
  | [a], _, _, h =>
    obtain ⟨u, rfl, hu, hd⟩ := dec_of_one h
    refine ⟨u, rfl, by omega, ?_⟩
    rw [if_pos hd]
    unfold numO
    rw [if_neg (by simp)]
    exact h
  | [a, b], _, _, h =>
    obtain ⟨h0, h1, h2⟩ := two_back h
    refine ⟨v.toNat, by omega, by omega, ?_⟩
    by_cases e : a = 48
    · have hn : numO [a, b] = none := by unfold numO; rw [if_pos (Or.inr (Or.inr ⟨by simp, by simpa using e⟩))]
      rw [if_neg, hn]
      intro hd
      have : v.toNat < 10 := by
        subst e
        have := congrArg List.head? h2
        simp [d2] at this
        have e2 := congrArg UInt8.toNat this
        rw [dgt_toNat] at e2
        simp at e2
        omega
      rw [dec_one this] at hd
      simp at hd
    · have hn : numO [a, b] = some v := by unfold numO; rw [if_neg (by simp; exact e)]; exact h
      rw [if_pos, hn]
      have : 10 ≤ v.toNat := by
        rcases Nat.lt_or_ge v.toNat 10 with l | l
        · exfalso
          have hh := congrArg List.head? h2
          simp [d2, Nat.div_eq_of_lt l] at hh
          exact e (by rw [hh]; rfl)
        · exact l
      rw [dec_two this (by omega)]
      exact h2.symm
theorem num_long {l : List UInt8} (h : 2 < l.length) : numO l = none := by unfold numO; rw [if_pos (Or.inr (Or.inl h))]
theorem num_bad {l : List UInt8} (h : nrd l 0 = none) : numO l = none := by
  unfold numO
  split
  · rfl
  · exact h
theorem num_nil : numO [] = none := by unfold numO; rw [if_pos (Or.inl rfl)]

set_option maxHeartbeats 1600000 in
theorem twoDigits_any (l : List UInt8) (w : World) (hl : l.length ≤ 200) :
    Calls Tryd.prog 34 #[.string ⟨l.toArray⟩] w fun e w' => ((∃ n : Int, e = .returned (.tuple #[.int .i64 n, .bool true]) ∧ numO l = some n) ∨ (∃ v : Int, e = .returned (.tuple #[.int .i64 v, .bool false]) ∧ numO l = none)) ∧ w' = w := by
  obtain ⟨s, hse⟩ : ∃ s, s = ByteArray.mk l.toArray := ⟨_, rfl⟩
  have hs : s.size = l.length := by rw [hse]; exact mk_size l
  have hd : s.data.toList = l := by rw [hse]
  rw [← hse]
  have HSE : Hid (s = ByteArray.mk l.toArray) := hse
  have HD : Hid (s.data.toList = l) := hd
  have HS : Hid (s.size = l.length) := hs
  have hsl : s.size ≤ 200 := by omega
  clear hse hs hd
  go_enter Tryd.func34, Tryd.ntmps34
  go_wp2
  go_loop [4, 8] (fun n i => ∃ (k : Nat) (a : Int), k ≤ s.size ∧ k ≤ 2 ∧ i = .int .i64 k ∧ n = .int .i64 a ∧ Hid (nrd (s.data.toList.take k) 0 = some a) ∧ 0 ≤ a ∧ a ≤ 9999) (fun _ i => s.size - (intOf i).toNat)
  case atStart => exact ⟨0, 0, Nat.zero_le _, by omega, rfl, rfl, rfl, by omega, by omega⟩
  case round =>
    obtain ⟨k, a, hk, hk2, rfl, rfl, HA, h0, h9⟩ := hrel
    by_cases hlt : k < s.size
    · have HN : Hid (nrd (s.data.toList.take (k + 1)) 0 = if 48 ≤ (s[k].toNat : Int) ∧ (s[k].toNat : Int) ≤ 57 then some (a * 10 + ((s[k].toNat : Int) - 48)) else none) := by
        rw [take_snoc s k hlt]; exact nrd_snoc HA.out
      rcases (show ((s[k].toNat : Int) < 48 ∨ 48 ≤ (s[k].toNat : Int) ∧ 57 < (s[k].toNat : Int)) ∨ 48 ≤ (s[k].toNat : Int) ∧ (s[k].toNat : Int) ≤ 57 by omega) with hbad | hgood
      · have hr : numO l = none := by
          refine num_bad ?_
          have hq := HN.out
          rw [if_neg (by omega)] at hq
          have := nrd_prefix_none (s.data.toList.drop (k + 1)) hq
          rw [List.take_append_drop, HD.out] at this
          exact this
        have HR : Hid (numO l = none) := hr
        clear hr HN HA
        rcases hbad with hbad | ⟨hbad, hbad'⟩
        all_goals
          go_wp2
          go_ret2
          exact ⟨Or.inr ⟨⟨_, rfl⟩, HR.out⟩, rfl⟩
      · have hq := HN.out
        rw [if_pos hgood] at hq
        have hbd := nrd_bd _ 0 _ 3 (by simp; omega) (by omega) hq
        have HQ : Hid (nrd (s.data.toList.take (k + 1)) 0 = some (a * 10 + ((s[k].toNat : Int) - 48))) := hq
        have hup : a * 10 + ((s[k].toNat : Int) - 48) ≤ 9999 := by have := hbd.2; omega
        clear hq HN hbd
        obtain ⟨g1, g2⟩ := hgood
        by_cases h1 : 1 < k
        · have HR : Hid (numO l = none) := num_long (by rw [← HS.out]; omega)
          go_wp2
          go_ret2
          exact ⟨Or.inr ⟨⟨_, rfl⟩, HR.out⟩, rfl⟩
        · go_wp2
          go_round
          case rel => exact ⟨k + 1, a * 10 + ((s[k].toNat : Int) - 48), by omega, by omega, by go_num, rfl, HQ, by omega, hup⟩
          case measure => simp [intOf]; omega
    · have hka : nrd l 0 = some a := by
        have := HA.out
        rw [show k = s.size by omega, take_all, HD.out] at this
        exact this
      have hkl : k = l.length := by rw [← HS.out]; omega
      by_cases hz : s.size = 0
      · have hne : s.toList.isEmpty = true := by
          rw [ByteArray.toList_eq, HD.out]
          have : l = [] := List.eq_nil_of_length_eq_zero (by rw [← HS.out]; exact hz)
          rw [this]; rfl
        have HR : Hid (numO l = none) := by
          have : l = [] := List.eq_nil_of_length_eq_zero (by rw [← HS.out]; exact hz)
          show _ = _
          rw [this]; exact num_nil
        clear hka hkl
        go_wp2
        go_ret2
        exact ⟨Or.inr ⟨⟨_, rfl⟩, HR.out⟩, rfl⟩
      · have hne : s.toList.isEmpty = false := by
          rw [ByteArray.toList_eq, HD.out]
          cases hx : l with
          | nil => exfalso; apply hz; rw [HS.out, hx]; rfl
          | cons _ _ => rfl
        obtain ⟨u, hu, hu2, hif⟩ := num_of_dec (by rw [← hkl]; omega) (by omega) hka
        subst hu
        have HIF : Hid (if dec u = l then numO l = some (u : Int) else numO l = none) := hif
        clear hif hka hkl
        go_wp2_with (go_at_call 23; refine (Digits_dec u hu2 _).mono ?_; rintro e w' ⟨rfl, rfl⟩)
        have htl : s.toList = l := by rw [ByteArray.toList_eq, HD.out]
        by_cases hde : dec u = l
        · have hq := HIF.out
          rw [if_pos hde] at hq
          have HQ : Hid (numO l = some (u : Int)) := hq
          have hb : (dec u == s.toList) = true := by rw [htl, hde]; simp
          clear hq htl hde
          go_ret2
          first | exact ⟨Or.inl ⟨_, ret_ib rfl hb, HQ.out⟩, rfl⟩ | (rw [hb]; exact ⟨Or.inl ⟨_, rfl, HQ.out⟩, rfl⟩)
        · have hq := HIF.out
          rw [if_neg hde] at hq
          have HQ : Hid (numO l = none) := hq
          have hb : (dec u == s.toList) = false := by rw [htl]; simpa using hde
          clear hq htl hde
          go_ret2
          exact ⟨Or.inr ⟨_, ret_ib rfl hb, HQ.out⟩, rfl⟩
theorem twoDigits_yes (l : List UInt8) (n : Int) (w : World) (hl : l.length ≤ 200) (h : numO l = some n) :
    Calls Tryd.prog 34 #[.string ⟨l.toArray⟩] w fun e w' => e = .returned (.tuple #[.int .i64 n, .bool true]) ∧ w' = w := by
  refine (twoDigits_any l w hl).mono ?_
  rintro e w' ⟨⟨m, rfl, hm⟩ | ⟨v, rfl, hm⟩, rfl⟩
  · rw [h] at hm; cases hm; exact ⟨rfl, rfl⟩
  · rw [h] at hm; cases hm
theorem twoDigits_no (l : List UInt8) (w : World) (hl : l.length ≤ 200) (h : numO l = none) :
    Calls Tryd.prog 34 #[.string ⟨l.toArray⟩] w fun e w' => ∃ v : Int, e = .returned (.tuple #[.int .i64 v, .bool false]) ∧ w' = w := by
  refine (twoDigits_any l w hl).mono ?_
  rintro e w' ⟨⟨m, rfl, hm⟩ | ⟨v, rfl, hm⟩, rfl⟩
  · rw [h] at hm; cases hm
  · exact ⟨v, rfl, rfl⟩
end Go.Proofs.YthebcdadoinflaaDoor
