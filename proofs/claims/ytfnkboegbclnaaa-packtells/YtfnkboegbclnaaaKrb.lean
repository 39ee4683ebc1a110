/- The reference of package pack: BoxesOf. -/
import Derived.Test.YtfnkboegbclnaaaKra
namespace Go.Proofs.Ytfnkboegbclnaaa
open Go.RowKit
set_option linter.unusedSectionVars false
set_option linter.unusedVariables false

/-- Whether no thing ahead of i lies in i's box, by the first k of all. -/
def fsB (B : List Int) (i : Nat) : Nat → Bool
  | 0 => true
  | k + 1 => if nm B k = nm B i then fsB B i k && decide (i ≤ k) else fsB B i k
theorem fsB_spec (B : List Int) (i : Nat) : ∀ k, fsB B i k = true ↔ ∀ j, j < k → nm B j = nm B i → i ≤ j := by
  intro k
  induction k with
  | zero => exact ⟨fun _ j hj => absurd hj (Nat.not_lt_zero _), fun _ => rfl⟩
  | succ k ih =>
    rw [fsB]
    by_cases e : nm B k = nm B i
    · rw [if_pos e, Bool.and_eq_true, decide_eq_true_eq, ih]
      constructor
      · rintro ⟨h1, h2⟩ j hj ej
        by_cases e2 : j = k
        · rw [e2]; exact h2
        · exact h1 j (by omega) ej
      · intro h
        exact ⟨fun j hj ej => h j (by omega) ej, h k (by omega) e⟩
    · rw [if_neg e, ih]
      constructor
      · intro h1 j hj ej
        by_cases e2 : j = k
        · rw [e2] at ej; exact absurd ej e
        · exact h1 j (by omega) ej
      · intro h j hj ej
        exact h j (by omega) ej
theorem fsB_key {B : List Int} {i n : Nat} (hi : i < n) : ((bxK B (i + 1)).length : Int) = (bxK B i).length + if fsB B i n = true then 1 else 0 := by
  rw [bxK]
  by_cases e : nm B i ∈ bxK B i
  · have h1 : ¬ fsB B i n = true := fun h => by
      obtain ⟨j, hj, ej⟩ := ((bxK_spec B i).2 _).1 e
      have := (fsB_spec B i n).1 h j (by omega) ej
      omega
    rw [if_pos e, if_neg h1]; omega
  · have h1 : fsB B i n = true := (fsB_spec B i n).2 fun j hj ej => by
      by_cases e2 : i ≤ j
      · exact e2
      · exact absurd (((bxK_spec B i).2 _).2 ⟨j, by omega, ej⟩) e
    rw [if_neg e, if_pos h1, List.length_append, List.length_singleton]; omega
theorem bxS_sb2 (l B : List Int) : ∀ j b, bxS l B j b = sb l (nm B) b (List.range j) := by
  intro j
  induction j with
  | zero => intro b; rfl
  | succ j ih =>
    intro b
    rw [bxS, sb_succ]
    by_cases e : b = nm B j
    · rw [if_pos e, if_pos e.symm, ih, e]
    · rw [if_neg e, if_neg (fun h => e h.symm), ih]; omega
theorem bxO_in {l B : List Int} {size : Int} {n i : Nat} (h : bxO l B size n = true) (hi : i < n) : 0 ≤ nm B i := by
  cases e : bxO l B size (i + 1) with
  | false => rw [bxO_mono e (show i + 1 ≤ n by omega)] at h; cases h
  | true =>
    rw [bxO, Bool.and_eq_true, Bool.and_eq_true] at e
    exact of_decide_eq_true e.2.1
theorem bxO_good {l B : List Int} {size : Int} {n : Nat} (hl : ∀ i, i < n → 0 ≤ nm l i) (h : ∀ i, i < n → 0 ≤ nm B i ∧ sb l (nm B) (nm B i) (List.range n) ≤ size) : ∀ j, j ≤ n → bxO l B size j = true := by
  intro j
  induction j with
  | zero => intro _; rfl
  | succ j ih =>
    intro hj
    have h1 := h j (by omega)
    have h2 := sb_mono (I := nm B) (b := nm B j) hl (j + 1) hj
    rw [bxO, ih (by omega), Bool.true_and, Bool.and_eq_true, bxS_sb2]
    exact ⟨decide_eq_true h1.1, decide_eq_true (by omega)⟩
/-- What BoxesOf tells. -/
def bxP (l B : List Int) (size : Int) : Int := if B.length ≠ l.length then -1 else if bxO l B size l.length = true then ((bxK B l.length).length : Int) else -1

set_option maxHeartbeats 2000000 in
set_option maxRecDepth 100000 in
theorem boxesOf_any {w : World} {q qb : Option Addr} {l B : List Int} {c cb : Nat} (size : Int) (h : Nums w q l) (hB : Nums w qb B) (hk : kc l size = 0) :
    Calls Try.prog 19 #[.slice q l.length c, .int .i64 size, .slice qb B.length cb] w fun e w' => e = .returned (.int .i64 (bxP l B size)) ∧ w' = w := by
  obtain ⟨k1, k2, k3, k4⟩ := kc_ok hk
  by_cases hn : B.length = l.length
  · have hne : ((B.length : Int) != (l.length : Int)) = false := by simp [hn]
    obtain ⟨n, hnn⟩ : ∃ n, n = l.length := ⟨_, rfl⟩
    have hbad : Hid (∀ i, i < n → (nm B i < 0 ∨ size < sb l (nm B) (nm B i) (List.range n)) → bxP l B size = -1) := fun i hi hor => by
      unfold bxP
      rw [if_neg (by simpa using hn)]
      by_cases e : bxO l B size l.length = true
      · exfalso
        have a1 := bxO_in e (show i < l.length by omega)
        have a2 := bxS_bounds k4 k2 l.length (Nat.le_refl _) e (nm B i)
        rw [bxS_sb2, ← hnn] at a2
        rcases hor with h | h
        · omega
        · omega
      · rw [if_neg e]
    have hgood : Hid ((∀ i, i < n → 0 ≤ nm B i ∧ sb l (nm B) (nm B i) (List.range n) ≤ size) → bxP l B size = ((bxK B n).length : Int)) := fun hall => by
      unfold bxP
      rw [if_neg (by simpa using hn), ← hnn]
      have := bxO_good (l := l) (B := B) (size := size) (n := n) (fun i hi => by have := k4 _ (nm_mem (d := l) (k := i) (by omega)); omega) hall n (Nat.le_refl _)
      rw [if_pos this]
    have hbd : Hid (∀ (b : Int) j, j ≤ n → 0 ≤ sb l (nm B) b (List.range j) ∧ sb l (nm B) b (List.range j) ≤ (j : Int) * 1099511627776) := fun b j hj => sb_bounds (fun i hi => by have := k4 _ (nm_mem (d := l) hi); omega) j (by omega)
    have hxH : Hid (∀ i, i < n → 0 ≤ nm l i ∧ nm l i ≤ 1099511627776) := fun i hi => by have := k4 _ (nm_mem (d := l) (k := i) (by omega)); omega
    have hnH : Hid (n ≤ 100 ∧ l.length = n ∧ B.length = n) := ⟨by omega, hnn.symm, by omega⟩
    have hNH : Hid (Nums w q l) := h
    have hBH : Hid (Nums w qb B) := hB
    rw [hn, ← hnn] at hne ⊢
    clear h hB hk k1 k2 k3 k4 hn hnn
    generalize bxP l B size = z at *
    go_enter Try.func19, Try.ntmps19
    go_wp2
    go_loopg [7, 20] n (fun gz nv iv wr => ∃ i : Nat, iv = .int .i64 i ∧ nv = .int .i64 ((bxK B i).length : Int) ∧ n - i ≤ gz ∧ Hid (i ≤ n) ∧ Hid (∀ j, j < i → 0 ≤ nm B j ∧ sb l (nm B) (nm B j) (List.range n) ≤ size) ∧ wr = w)
    case atStart => exact ⟨0, rfl, rfl, by omega, Nat.zero_le _, fun j hj => absurd hj (Nat.not_lt_zero _), rfl⟩
    case round =>
      obtain ⟨i, rfl, rfl, hgz, hin, hall, rfl⟩ := hrel
      by_cases hi : i < n
      · have hiz : (i : Int) < (n : Int) := by omega
        have hiH : Hid (i < n) := hi
        obtain ⟨gb, ob, rfl, hAb⟩ := hBH.out.resolve_left (by have := hnH.out; omega)
        have zb := hAb.c i (by have := hnH.out; omega)
        have hi5 : Hid (i ≤ 100000) := by have := hnH.out; show _ ≤ _; omega
        have hbadi : Hid ((nm B i < 0 ∨ size < sb l (nm B) (nm B i) (List.range n)) → z = -1) := fun hor => hbad.out i hi hor
        have hkey : Hid (((bxK B (i + 1)).length : Int) = (bxK B i).length + if fsB B i n = true then 1 else 0) := fsB_key hi
        have hN9 : Hid ((bxK B i).length ≤ 100) := by have := bxK_len B i; have := hnH.out; show _ ≤ _; omega
        have hallH : Hid _ := hall
        clear hAb hi hall
        by_cases hneg : nm B i < 0
        · have ez := hbadi.out (Or.inl hneg)
          subst ez
          clear hbadi hkey
          go_wp2
          go_ret
          exact ⟨rfl, rfl⟩
        · have hnegH : Hid (0 ≤ nm B i) := by show _ ≤ _; omega
          have hbd2 : Hid (∀ j, j ≤ n → 0 ≤ sb l (nm B) (nm B i) (List.range j) ∧ sb l (nm B) (nm B i) (List.range j) ≤ (j : Int) * 1099511627776) := fun j hj => hbd.out (nm B i) j hj
          have hsbs : Hid (∀ j, sb l (nm B) (nm B i) (List.range (j + 1)) = sb l (nm B) (nm B i) (List.range j) + if nm B j = nm B i then nm l j else 0) := fun j => sb_succ l (nm B) (nm B i) j
          have hfs : Hid (∀ j, fsB B i (j + 1) = if nm B j = nm B i then fsB B i j && decide (i ≤ j) else fsB B i j) := fun j => rfl
          generalize hyb : nm B i = b at *
          have hybH : Hid (nm B i = b) := hyb
          clear hyb
          go_wp2
          go_loopg [10, 11, 29] n (fun gz2 fv bv kv wq => ∃ k : Nat, kv = .int .i64 k ∧ fv = .int .i64 (sb l (nm B) b (List.range k)) ∧ bv = .bool (fsB B i k) ∧ n - k ≤ gz2 ∧ Hid (k ≤ n) ∧ wq = wr)
          case atStart => exact ⟨0, rfl, rfl, rfl, by omega, Nat.zero_le _, rfl⟩
          case round =>
            rename World => wq
            obtain ⟨k, rfl, rfl, rfl, hgz2, hkn, rfl⟩ := hrel
            by_cases hkk : k < n
            · have hkz : (k : Int) < (n : Int) := by omega
              have hkH : Hid (k < n) := hkk
              obtain ⟨gl, ol, rfl, hAl⟩ := hNH.out.resolve_left (by have := hnH.out; omega)
              obtain ⟨gb2, ob2, eb2, hAb⟩ := hBH.out.resolve_left (by have := hnH.out; omega)
              simp only [Option.some.injEq, Addr.mk.injEq, and_true] at eb2
              obtain ⟨rfl, rfl⟩ := eb2
              have zl := hAl.c k (by have := hnH.out; omega)
              have zb2 := hAb.c k (by have := hnH.out; omega)
              have hk5 : Hid (k ≤ 100000) := by have := hnH.out; show _ ≤ _; omega
              have hs1 := hsbs.out k
              have hf1 := hfs.out k
              have hw : Hid (wrap64 (sb l (nm B) b (List.range k) + nm l k) = sb l (nm B) b (List.range k) + nm l k) := by
                have a1 := hbd2.out k (by omega)
                have a2 := hxH.out k hkk
                have a3 := hnH.out.1
                show _ = _
                generalize sb l (nm B) b (List.range k) = S at *
                generalize nm l k = x at *
                clear hAl hAb zl zb2 zb hs1
                exact wrap_s (by omega)
              have hs1H : Hid _ := hs1
              have hf1H : Hid _ := hf1
              clear hAl hAb hkk hs1 hf1 zb
              generalize sb l (nm B) b (List.range k) = S at *
              generalize nm l k = x at *
              generalize nm B k = y at *
              generalize fsB B i k = fb at *
              by_cases hy : y = b
              · subst hy
                have hs2 : Hid (sb l (nm B) y (List.range (k + 1)) = S + x) := by have := hs1H.out; rw [if_pos rfl] at this; exact this
                have hf2 : Hid (fsB B i (k + 1) = (fb && decide (i ≤ k))) := by have := hf1H.out; rw [if_pos rfl] at this; exact this
                clear hs1H hf1H
                have hwo := hw.out
                by_cases hik : i ≤ k
                · have hikz : (i : Int) ≤ (k : Int) := by omega
                  have hf3 : Hid (fsB B i (k + 1) = fb) := by have := hf2.out; rw [decide_eq_true hik, Bool.and_true] at this; exact this
                  clear hf2 hik
                  cases fb
                  · go_wp2
                    go_roundg (n - (k + 1))
                    case measure => have := hkH.out; omega
                    case rel => exact ⟨k + 1, by first | exact int_wsucc hk5.out | exact int_succ k, by rw [hs2.out]; try rw [hwo], by rw [hf3.out], Nat.le_refl _, hkH.out, rfl⟩
                  · go_wp2
                    go_roundg (n - (k + 1))
                    case measure => have := hkH.out; omega
                    case rel => exact ⟨k + 1, by first | exact int_wsucc hk5.out | exact int_succ k, by rw [hs2.out]; try rw [hwo], by rw [hf3.out]; try simp [hikz], Nat.le_refl _, hkH.out, rfl⟩
                · have hikz : ¬ (i : Int) ≤ (k : Int) := by omega
                  have hf3 : Hid (fsB B i (k + 1) = false) := by have := hf2.out; rw [decide_eq_false hik, Bool.and_false] at this; exact this
                  clear hf2 hik
                  cases fb
                  · go_wp2
                    go_roundg (n - (k + 1))
                    case measure => have := hkH.out; omega
                    case rel => exact ⟨k + 1, by first | exact int_wsucc hk5.out | exact int_succ k, by rw [hs2.out]; try rw [hwo], by rw [hf3.out], Nat.le_refl _, hkH.out, rfl⟩
                  · go_wp2
                    go_roundg (n - (k + 1))
                    case measure => have := hkH.out; omega
                    case rel => exact ⟨k + 1, by first | exact int_wsucc hk5.out | exact int_succ k, by rw [hs2.out]; try rw [hwo], by rw [hf3.out]; try simp [hikz], Nat.le_refl _, hkH.out, rfl⟩
              · have hyb : (y == b) = false := by simpa using hy
                have hs2 : Hid (sb l (nm B) b (List.range (k + 1)) = S) := by have := hs1H.out; rw [if_neg hy, Int.add_zero] at this; exact this
                have hf2 : Hid (fsB B i (k + 1) = fb) := by have := hf1H.out; rw [if_neg hy] at this; exact this
                clear hs1H hf1H hw hy
                go_wp2
                go_roundg (n - (k + 1))
                case measure => have := hkH.out; omega
                case rel => exact ⟨k + 1, by first | exact int_wsucc hk5.out | exact int_succ k, by rw [hs2.out], by rw [hf2.out], Nat.le_refl _, hkH.out, rfl⟩
            · have hkz : ¬ (k : Int) < (n : Int) := by omega
              have e : k = n := by have := hkn.out; omega
              subst e
              by_cases hfull : size < sb l (nm B) b (List.range k)
              · have ez := hbadi.out (Or.inr hfull)
                subst ez
                clear hbadi hkey hbd hbd2 hsbs hfs hxH
                go_wp2
                go_ret
                exact ⟨rfl, rfl⟩
              · have hfH : Hid (sb l (nm B) b (List.range k) ≤ size) := by show _ ≤ _; omega
                have hall2 : Hid (∀ j, j < i + 1 → 0 ≤ nm B j ∧ sb l (nm B) (nm B j) (List.range k) ≤ size) := fun j hj => by
                  by_cases e : j = i
                  · rw [e, hybH.out]; exact ⟨hnegH.out, hfH.out⟩
                  · exact hallH.out j (by omega)
                have hNw : Hid (wrap64 (((bxK B i).length : Int) + 1) = ((bxK B i).length : Int) + 1) := by have := hN9.out; show _ = _; exact wrap_s (by omega)
                clear hbadi hbd hbd2 hsbs hfs hxH hallH hgz2
                cases hfb : fsB B i k with
                | true =>
                  have hk2 : Hid (((bxK B (i + 1)).length : Int) = (bxK B i).length + 1) := by have := hkey.out; rw [if_pos hfb] at this; exact this
                  have hNo := hNw.out
                  clear hkey hfb
                  go_wp2
                  go_roundg (k - (i + 1))
                  case measure => have := hiH.out; omega
                  case rel => exact ⟨i + 1, by first | exact int_wsucc hi5.out | exact int_succ i, by rw [hk2.out]; try rw [hNo], Nat.le_refl _, hiH.out, hall2.out, rfl⟩
                | false =>
                  have hk2 : Hid (((bxK B (i + 1)).length : Int) = (bxK B i).length) := by have := hkey.out; rw [if_neg (by rw [hfb]; decide), Int.add_zero] at this; exact this
                  clear hkey hfb
                  go_wp2
                  go_roundg (k - (i + 1))
                  case measure => have := hiH.out; omega
                  case rel => exact ⟨i + 1, by first | exact int_wsucc hi5.out | exact int_succ i, by rw [hk2.out], Nat.le_refl _, hiH.out, hall2.out, rfl⟩
      · have hiz : ¬ (i : Int) < (n : Int) := by omega
        have e : i = n := by have := hin.out; omega
        subst e
        have ez := hgood.out hall.out
        subst ez
        clear hbad hgood hbd hxH hall
        go_wp2
        go_ret
        exact ⟨rfl, rfl⟩
  · have hne : ((B.length : Int) != (l.length : Int)) = true := by simp; omega
    have ez : bxP l B size = -1 := by unfold bxP; rw [if_pos hn]
    rw [ez]
    clear h hB hk k1 k2 k3 k4 hn ez
    go_enter Try.func19, Try.ntmps19
    go_wp2
    go_ret
    exact ⟨rfl, rfl⟩
end Go.Proofs.Ytfnkboegbclnaaa
