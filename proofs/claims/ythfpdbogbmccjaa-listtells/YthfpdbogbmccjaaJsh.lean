/- The reference of package list: shortest, ShortestSpan. -/
import Derived.Test.YthfpdbogbmccjaaJsm
namespace Go.Proofs.Ythfpdbogbmccjaa
open Go.RowKit
set_option linter.unusedSectionVars false
set_option linter.unusedVariables false

/-- The contract of shortest at rows of N jobs. -/
def ShC (m N : Nat) : Prop := ∀ (w : World) (q qw : Option Addr) (c cw : Nat) (d : List Int) (W : Nat → Int) (best : Int), d.length = N → Nums w q d → d.length ≤ c → Nums w qw ((List.range m).map W) → (∀ x ∈ d, 0 ≤ x ∧ x ≤ 1000000000) → (∀ b, b < m → 0 ≤ W b ∧ W b + (N : Int) * 1000000000 ≤ 100000000000) →
  Calls Try.prog 31 #[.slice q N c, .slice qw m cw, .int .i64 best] w fun e w' => (∃ r, Hid (Sho m d W best r) ∧ e = .returned (.int .i64 r)) ∧ Below w.heap.size w w'

set_option maxHeartbeats 4000000 in
set_option maxRecDepth 100000 in
theorem shortest_any {m : Nat} (hm : 1 ≤ m ∧ m ≤ 20) : ∀ N, N ≤ 9 → ShC m N := by
  intro N
  induction N with
  | zero =>
    intro _ w q qw c cw d W best hN hq hc hw hd hW
    have hmo := most_any (c := cw) hw (by rw [List.length_map, List.length_range]; omega)
    rw [List.length_map, List.length_range, mst_congr (W' := W) fun b hb => nm_map hb] at hmo
    have hW0 : ∀ b, b < m → 0 ≤ W b := fun b hb => (hW b hb).1
    have e : d = [] := List.length_eq_zero_iff.1 hN
    subst e
    by_cases hp : best ≤ mst W m
    · have hres : Hid (Sho m [] W best best) := Sho.cut hm.1 (fun x hx => by cases hx) hW0 hp
      clear hN hq hc hw hd hW hW0 hm
      generalize mst W m = M at *
      go_enter Try.func31, Try.ntmps31
      go_wp2_with (first
        | (go_at_call 30; refine hmo.mono ?_; rintro e w' ⟨rfl, hw'⟩; have hw'' := hw'.symm; subst hw'')
        | fail)
      go_ret
      exact ⟨⟨_, hres, rfl⟩, Below.refl _ _⟩
    · have hres : Hid (Sho m [] W best (mst W m)) := Sho.nil hm.1 hW0 hp
      clear hN hq hc hw hd hW hW0 hm
      generalize mst W m = M at *
      go_enter Try.func31, Try.ntmps31
      go_wp2_with (first
        | (go_at_call 30; refine hmo.mono ?_; rintro e w' ⟨rfl, hw'⟩; have hw'' := hw'.symm; subst hw'')
        | fail)
      go_ret
      exact ⟨⟨_, hres, rfl⟩, Below.refl _ _⟩
  | succ N ih =>
    intro hN9 w q qw c cw d W best hN hq hc hw hd hW
    have ihH : Hid (ShC m N) := ih (by omega)
    have hmo := most_any (c := cw) hw (by rw [List.length_map, List.length_range]; omega)
    rw [List.length_map, List.length_range, mst_congr (W' := W) fun b hb => nm_map hb] at hmo
    have hW0 : ∀ b, b < m → 0 ≤ W b := fun b hb => (hW b hb).1
    obtain ⟨x, t, rfl⟩ : ∃ x t, d = x :: t := by
      cases d with
      | nil => simp at hN
      | cons x t => exact ⟨x, t, rfl⟩
    have hNz : ¬ ((N + 1 : Nat) : Int) = 0 := by omega
    by_cases hp : best ≤ mst W m
    · have hres : Hid (Sho m (x :: t) W best best) := Sho.cut hm.1 (fun x hx => (hd x hx).1) hW0 hp
      clear ih ihH hN hq hc hw hd hW hW0 hm hN9
      generalize mst W m = M at *
      go_enter Try.func31, Try.ntmps31
      go_wp2_with (first
        | (go_at_call 30; refine hmo.mono ?_; rintro e w' ⟨rfl, hw'⟩; have hw'' := hw'.symm; subst hw'')
        | fail)
      go_ret
      exact ⟨⟨_, hres, rfl⟩, Below.refl _ _⟩
    · have htl : t.length = N := by simpa using hN
      have hmH : Hid (1 ≤ m ∧ m ≤ 20) := hm
      have hqH : Hid (Nums w q (x :: t)) := hq
      have hwH : Hid (Nums w qw ((List.range m).map W)) := hw
      have hdH : Hid (∀ y ∈ x :: t, 0 ≤ y ∧ y ≤ 1000000000) := hd
      have hWH : Hid (∀ b, b < m → 0 ≤ W b ∧ W b + ((N + 1 : Nat) : Int) * 1000000000 ≤ 100000000000) := hW
      have hcH : Hid (N + 1 ≤ c ∧ N + 1 ≤ 9) := ⟨by rw [hN] at hc; exact hc, hN9⟩
      have htlH : Hid (t.length = N) := htl
      clear ih hN hq hc hw hd hW hW0 hm hN9 htl
      generalize mst W m = M at *
      go_enter Try.func31, Try.ntmps31
      go_wp2_with (first
        | (go_at_call 30; refine hmo.mono ?_; rintro e w' ⟨rfl, hw'⟩; have hw'' := hw'.symm; subst hw''; clear hmo)
        | fail)
      rename M < best => hx1
      rename ((N : Int) + 1 == 0) = false => hx2
      clear hx1 hx2
      go_loopg [2, 7, 22] m (fun gz bv ev kv wr => ∃ (k : Nat) (r : Int) (eb : Bool), kv = .int .i64 k ∧ bv = .int .i64 r ∧ ev = .bool eb ∧ m - k ≤ gz ∧ Hid (k ≤ m) ∧ Hid (eb = true → ∃ k0, k0 < k ∧ W k0 = 0) ∧ Hid (Shl m (x :: t) W best k r) ∧ Hid (Below w.heap.size w wr))
      case atStart => exact ⟨0, best, false, rfl, rfl, rfl, by omega, Nat.zero_le _, (fun h => by cases h), Shl.start _ _ _ _, Below.refl _ _⟩
      case round =>
        obtain ⟨k, r, eb, rfl, rfl, rfl, hgz, hkm, heb, hsl, hbl⟩ := hrel
        by_cases hk : k < m
        · have hkz : (k : Int) < (m : Int) := by omega
          have kz2 : ¬ (k : Int) < 0 := by omega
          have hkH : Hid (k < m) := hk
          have hk5 : Hid (k ≤ 100000) := by have := hmH.out; show _ ≤ _; omega
          obtain ⟨gw, ow, rfl, hAw⟩ := (hwH.out.below hbl.out (Nat.le_refl _)).resolve_left (by rw [List.length_map, List.length_range]; omega)
          obtain ⟨gq, oq, rfl, hAq⟩ := (hqH.out.below hbl.out (Nat.le_refl _)).resolve_left (by simp)
          have z1 : wr.cell? ⟨gw, ow + k, none⟩ = some (.int .i64 (W k)) := by rw [hAw.c k (by rw [List.length_map, List.length_range]; exact hk), nm_map hk]
          have hWk := hWH.out k hk
          by_cases hs : W k = 0 ∧ eb = true
          · obtain ⟨hs1, rfl⟩ := hs
            have hwk0 : W k = 0 := hs1
            rw [hwk0] at z1
            have hnew : Hid (Shl m (x :: t) W best (k + 1) r) := by
              obtain ⟨k0, h1, h2⟩ := heb.out rfl
              exact hsl.out.skip hkH.out h1 hs1 h2
            have hebn : Hid (∃ k0, k0 < k + 1 ∧ W k0 = 0) := by
              obtain ⟨k0, h1, h2⟩ := heb.out rfl
              exact ⟨k0, by omega, h2⟩
            clear hAw hAq hk heb hsl hs1 hwk0 hWk
            go_wp2_with fail
            go_roundg (m - (k + 1))
            case measure => have := hkH.out; omega
            case rel => exact ⟨k + 1, r, true, by first | exact int_wsucc hk5.out | exact int_succ k, rfl, rfl, Nat.le_refl _, hkH.out, fun _ => hebn.out, hnew, hbl⟩
          · have hdH2 := hdH.out x (by simp)
            have hnews : Hid (∀ j u, (numf W m)[j]? = some u → wr.cell? ((⟨gw, ow, none⟩ : Addr).add j) = some u) := fun j u hu => by
              have hj : j < m := by have := (List.getElem?_eq_some_iff.1 hu).1; rwa [numf_len] at this
              rw [numf_get hj] at hu
              rw [Addr.add_lit, hAw.c j (by rw [List.length_map, List.length_range]; exact hj), nm_map hj]
              exact hu
            have h1H : Hid (∀ u ∈ numf W m, u.oneCell' = true) := fun u hu => by
              obtain ⟨j, _, rfl⟩ := List.mem_map.1 hu
              rfl
            have hlen : Hid ((numf W m).length = m * 1) := by show _ = _; rw [numf_len, Nat.mul_one]
            have zx : Hid (wr.cell? ⟨gq, oq + 0, none⟩ = some (.int .i64 x)) := by
              have := hAq.c 0 (by simp)
              rwa [show nm (x :: t) 0 = x from rfl] at this
            have hgqlt : Hid (gq < w.heap.size) := by
              rcases hqH.out with h0 | ⟨b2, o2, e2, hA2⟩
              · simp at h0
              · cases e2; exact hA2.lt
            have hWk2 : Hid (0 ≤ W k ∧ W k + ((N + 1 : Nat) : Int) * 1000000000 ≤ 100000000000 ∧ 0 ≤ x ∧ x ≤ 1000000000) := by show _ ∧ _; omega
            have htail : Hid (∀ w8 : World, Below w.heap.size w w8 → N ≠ 0 → Nums w8 (some ⟨gq, oq + 1, none⟩) t) := fun w8 hb h0 => Or.inr ⟨gq, oq + 1, rfl, by
              have hA8 : NumAt w8 gq oq (x :: t) := by
                rcases hqH.out.below hb (Nat.le_refl _) with h0 | ⟨b2, o2, e2, hA2⟩
                · simp at h0
                · cases e2; exact hA2
              refine ⟨hA8.lt, fun j hj => ?_⟩
              have := hA8.c (j + 1) (by simp; exact hj)
              rw [show oq + 1 + j = oq + (j + 1) by omega, this]
              rfl⟩
            clear hAw hAq hk hWk hdH2
            by_cases hz : W k = 0
            · have ez : eb = false := by
                cases eb with
                | false => rfl
                | true => exact absurd ⟨hz, rfl⟩ hs
              subst ez
              rw [hz] at z1
              have hebn : Hid (∃ k0, k0 < k + 1 ∧ W k0 = 0) := ⟨k, Nat.lt_succ_self k, hz⟩
              clear hs hz heb
              go_wp2_with (first
                | (at_builtin; obtain ⟨i0, hi9, hz0, hz1, hz2⟩ := info_parts info_i64; refine wpList_append_own_at _ rfl _ _ 22 rfl wr.heap.size 2 i0 (.int .i64 0) 1 8 Try.underlying22 hi9 hz0 hz1 hz2 rfl (by decide) _ 0 [] rfl (World.ownsRow_nil _ _ _ _) ⟨gw, ow, none⟩ m cw (numf W m) rfl hlen.out hnews.out h1H.out (by unfold maxLen; have := hmH.out; omega) (by have := hmH.out; omega) (Nat.le_refl _) ?_; intro v' w6 hown6 hgrow6 hnil6 hloc6; clear hi9 hz0 hz1 hz2 hnil6 hloc6; rw [Nat.zero_add, List.nil_append] at hown6; obtain ⟨p6, c6, rfl⟩ := own_form hown6; obtain ⟨g6, rfl, x6, hg6⟩ := row_num hown6 hkH.out)
                | fail)
              have hgr : wr.grownBy w6 none := hgrow6
              have hb6 : Below w.heap.size w w6 := ⟨hgr.os.trans hbl.out.os, hgr.tape.trans hbl.out.tape, hgr.output.trans hbl.out.output, Nat.le_trans hbl.out.size hgr.size, fun b hb => by rw [hgr.block b (by have := hbl.out.size; omega) (by simp), hbl.out.block b hb]⟩
              have zd : w6.cell? ⟨gq, oq, none⟩ = some (.int .i64 x) := hgr.cell (by have := zx.out; rwa [Nat.add_zero] at this) (by simp)
              have f6 := owns_frz hown6 k
              have kz3 : ¬ (k : Int) < 0 := by omega
              have nz0 : (0 : Int) < ((N + 1 : Nat) : Int) := by omega
              have hwx : IntKind.i64.wrap (W k + x) = W k + x := by rw [IntKind.wrap_i64]; have h2 := hWk2.out; omega
              have mixed := stMixedK
              have hown6H : Hid (w6.ownsRow wr.heap.size 2 1 (.slice (some ⟨g6, 0, none⟩) m c6) m (numf W m)) := hown6
              have hb6H : Hid (Below w.heap.size w w6 ∧ w.heap.size ≤ g6) := ⟨hb6, Nat.le_trans hbl.out.size hg6⟩
              clear hgrow6 hgr hb6 hown6 z1 hg6 kz2
              go_big_region_o
              have hrow8 : Hid (((w6.setCell ⟨g6, k, none⟩ (.int .i64 (W k + x))).drew).ownsRow wr.heap.size 2 1 (.slice (some ⟨g6, 0, none⟩) m c6) m (numf (fp W k (W k + x)) m)) := by
                have h2 := owns_store hown6H.out (j := k) (.int .i64 (W k + x))
                rw [numf_set] at h2
                exact h2
              have hbl8 : Hid (Below w.heap.size w ((w6.setCell ⟨g6, k, none⟩ (.int .i64 (W k + x))).drew)) := (hb6H.out.1.setCell hb6H.out.2 _).drew
              clear x6 f6 zd hwx kz3 nz0
              generalize (w6.setCell ⟨g6, k, none⟩ (.int .i64 (W k + x))).drew = w8 at *
              have hcallH : Hid (Calls Try.prog 31 #[.slice (if c = 1 then some ⟨gq, oq, none⟩ else some ⟨gq, oq + 1, none⟩) N (c - 1), .slice (some ⟨g6, 0, none⟩) m c6, .int .i64 r] w8 fun e w' => (∃ r9, Hid (Sho m t (fp W k (W k + x)) r r9) ∧ e = .returned (.int .i64 r9)) ∧ Below w8.heap.size w8 w') := ihH.out w8 (if c = 1 then some ⟨gq, oq, none⟩ else some ⟨gq, oq + 1, none⟩) (some ⟨g6, 0, none⟩) (c - 1) c6 t (fp W k (W k + x)) r htlH.out (by
                by_cases hN0 : N = 0
                · exact Or.inl (by rw [htlH.out, hN0])
                · rw [if_neg (by have := hcH.out; omega)]
                  exact htail.out w8 hbl8.out hN0) (by have := hcH.out; have := htlH.out; omega) (nums_row hrow8.out) (fun y hy => hdH.out y (List.mem_cons_of_mem _ hy)) (fun b hb => by
                  have h1 := hWH.out b hb
                  have h2 := hWk2.out
                  by_cases e : b = k
                  · rw [e, fp_same]; omega
                  · rw [fp_ne e]; omega)
              go_wp2_with (first
                | (go_at_call 31; refine hcallH.out.mono ?_; rintro e w9 ⟨⟨r9, hsho, rfl⟩, hb9⟩; clear hcallH; generalize (if c = 1 then (some ⟨gq, oq, none⟩ : Option Addr) else some ⟨gq, oq + 1, none⟩) = q9)
                | fail)
              have hbl9 : Hid (Below w.heap.size w w9) := hbl8.out.trans (hb9.mono hbl8.out.size)
              go_roundg (m - (k + 1))
              case measure => have := hkH.out; omega
              case rel => exact ⟨k + 1, r9, true, by first | exact int_wsucc hk5.out | exact int_succ k, rfl, rfl, Nat.le_refl _, hkH.out, (fun _ => hebn.out), hsl.out.step hkH.out hsho.out, hbl9⟩
            · have hebn : Hid (eb = true → ∃ k0, k0 < k + 1 ∧ W k0 = 0) := fun h => by
                obtain ⟨k0, h1, h2⟩ := heb.out h
                exact ⟨k0, by omega, h2⟩
              clear hs heb
              go_wp2_with (first
                | (at_builtin; obtain ⟨i0, hi9, hz0, hz1, hz2⟩ := info_parts info_i64; refine wpList_append_own_at _ rfl _ _ 22 rfl wr.heap.size 2 i0 (.int .i64 0) 1 8 Try.underlying22 hi9 hz0 hz1 hz2 rfl (by decide) _ 0 [] rfl (World.ownsRow_nil _ _ _ _) ⟨gw, ow, none⟩ m cw (numf W m) rfl hlen.out hnews.out h1H.out (by unfold maxLen; have := hmH.out; omega) (by have := hmH.out; omega) (Nat.le_refl _) ?_; intro v' w6 hown6 hgrow6 hnil6 hloc6; clear hi9 hz0 hz1 hz2 hnil6 hloc6; rw [Nat.zero_add, List.nil_append] at hown6; obtain ⟨p6, c6, rfl⟩ := own_form hown6; obtain ⟨g6, rfl, x6, hg6⟩ := row_num hown6 hkH.out)
                | fail)
              have hgr : wr.grownBy w6 none := hgrow6
              have hb6 : Below w.heap.size w w6 := ⟨hgr.os.trans hbl.out.os, hgr.tape.trans hbl.out.tape, hgr.output.trans hbl.out.output, Nat.le_trans hbl.out.size hgr.size, fun b hb => by rw [hgr.block b (by have := hbl.out.size; omega) (by simp), hbl.out.block b hb]⟩
              have zd : w6.cell? ⟨gq, oq, none⟩ = some (.int .i64 x) := hgr.cell (by have := zx.out; rwa [Nat.add_zero] at this) (by simp)
              have f6 := owns_frz hown6 k
              have kz3 : ¬ (k : Int) < 0 := by omega
              have nz0 : (0 : Int) < ((N + 1 : Nat) : Int) := by omega
              have hwx : IntKind.i64.wrap (W k + x) = W k + x := by rw [IntKind.wrap_i64]; have h2 := hWk2.out; omega
              have mixed := stMixedK
              have hown6H : Hid (w6.ownsRow wr.heap.size 2 1 (.slice (some ⟨g6, 0, none⟩) m c6) m (numf W m)) := hown6
              have hb6H : Hid (Below w.heap.size w w6 ∧ w.heap.size ≤ g6) := ⟨hb6, Nat.le_trans hbl.out.size hg6⟩
              clear hgrow6 hgr hb6 hown6 z1 hg6 kz2
              go_big_region_o
              have hrow8 : Hid (((w6.setCell ⟨g6, k, none⟩ (.int .i64 (W k + x))).drew).ownsRow wr.heap.size 2 1 (.slice (some ⟨g6, 0, none⟩) m c6) m (numf (fp W k (W k + x)) m)) := by
                have h2 := owns_store hown6H.out (j := k) (.int .i64 (W k + x))
                rw [numf_set] at h2
                exact h2
              have hbl8 : Hid (Below w.heap.size w ((w6.setCell ⟨g6, k, none⟩ (.int .i64 (W k + x))).drew)) := (hb6H.out.1.setCell hb6H.out.2 _).drew
              clear x6 f6 zd hwx kz3 nz0
              generalize (w6.setCell ⟨g6, k, none⟩ (.int .i64 (W k + x))).drew = w8 at *
              have hcallH : Hid (Calls Try.prog 31 #[.slice (if c = 1 then some ⟨gq, oq, none⟩ else some ⟨gq, oq + 1, none⟩) N (c - 1), .slice (some ⟨g6, 0, none⟩) m c6, .int .i64 r] w8 fun e w' => (∃ r9, Hid (Sho m t (fp W k (W k + x)) r r9) ∧ e = .returned (.int .i64 r9)) ∧ Below w8.heap.size w8 w') := ihH.out w8 (if c = 1 then some ⟨gq, oq, none⟩ else some ⟨gq, oq + 1, none⟩) (some ⟨g6, 0, none⟩) (c - 1) c6 t (fp W k (W k + x)) r htlH.out (by
                by_cases hN0 : N = 0
                · exact Or.inl (by rw [htlH.out, hN0])
                · rw [if_neg (by have := hcH.out; omega)]
                  exact htail.out w8 hbl8.out hN0) (by have := hcH.out; have := htlH.out; omega) (nums_row hrow8.out) (fun y hy => hdH.out y (List.mem_cons_of_mem _ hy)) (fun b hb => by
                  have h1 := hWH.out b hb
                  have h2 := hWk2.out
                  by_cases e : b = k
                  · rw [e, fp_same]; omega
                  · rw [fp_ne e]; omega)
              go_wp2_with (first
                | (go_at_call 31; refine hcallH.out.mono ?_; rintro e w9 ⟨⟨r9, hsho, rfl⟩, hb9⟩; clear hcallH; generalize (if c = 1 then (some ⟨gq, oq, none⟩ : Option Addr) else some ⟨gq, oq + 1, none⟩) = q9)
                | fail)
              have hbl9 : Hid (Below w.heap.size w w9) := hbl8.out.trans (hb9.mono hbl8.out.size)
              go_roundg (m - (k + 1))
              case measure => have := hkH.out; omega
              case rel => exact ⟨k + 1, r9, eb, by first | exact int_wsucc hk5.out | exact int_succ k, rfl, rfl, Nat.le_refl _, hkH.out, hebn, hsl.out.step hkH.out hsho.out, hbl9⟩
        · have hkz : ¬ (k : Int) < (m : Int) := by omega
          have e : k = m := by have := hkm.out; omega
          subst e
          have hres : Hid (Sho k (x :: t) W best r) := hsl.out.done
          clear hgz hk hsl heb
          go_wp2_with fail
          go_ret
          exact ⟨⟨_, hres, rfl⟩, hbl.out⟩

theorem made_nums {w : World} {B : Nat} {p : Option Addr} {m c : Nat} (h : w.ownsRow B 2 1 (.slice p m c) m (madeCells (Value.int .i64 0).cells (m * 1)).toList) : Nums w p ((List.range m).map fun _ => 0) := by
  have e : (madeCells (Value.int .i64 0).cells (m * 1)).toList = numf (fun _ => 0) m := by
    rw [numf_zero, Nat.mul_one]
    exact toList_madeCells_one _ _
  rw [e] at h
  exact nums_row h

set_option maxHeartbeats 1000000 in
set_option maxRecDepth 100000 in
theorem ShortestSpan_any {w : World} {q : Option Addr} {l : List Int} {c m : Nat} {v : Int} (h : Nums w q l) (hc : l.length ≤ c) (hk : kl (m : Int) l = 0) (hn : l.length ≤ 9) (hv : Bst l m (2 ^ l.length - 1) v) :
    Calls Try.prog 16 #[.int .i64 (m : Int), .slice q l.length c] w fun e w' => e = .returned (.int .i64 v) ∧ Below w.heap.size w w' := by
  obtain ⟨k1, k2, k3⟩ := kl_ok hk
  have hmH : Hid (1 ≤ m ∧ m ≤ 20) := by show _ ∧ _; omega
  have hcall : Hid (∀ (w2 : World) (g cw : Nat), Below w.heap.size w w2 → Nums w2 (some ⟨g, 0, none⟩) ((List.range m).map fun _ => 0) → Calls Try.prog 31 #[.slice q l.length c, .slice (some ⟨g, 0, none⟩) m cw, .int .i64 1152921504606846976] w2 fun e w' => e = .returned (.int .i64 v) ∧ Below w2.heap.size w2 w') := fun w2 g cw hb hN =>
    (shortest_any (m := m) (by omega) l.length hn w2 q (some ⟨g, 0, none⟩) c cw l (fun _ => 0) 1152921504606846976 rfl (h.below hb (Nat.le_refl _)) hc hN k3 (fun b _ => by omega)).mono fun e w' ⟨⟨r, hs, he⟩, hb'⟩ => ⟨by rw [he, sho_bst hv hs.out], hb'⟩
  clear h hc hk hn hv k1 k2 k3
  go_enter Try.func16, Try.ntmps16
  go_wp2_with (first
    | (at_make; obtain ⟨i0, hi, hz0, hz1, hz2⟩ := info_parts info_i64; refine wpList_make_full _ rfl _ _ 22 rfl w.heap.size 2 i0 (.int .i64 0) 1 Try.underlying22 hi hz0 hz1 _ _ _ _ m rfl rfl rfl rfl (by rw [hz2]; have := hmH.out; omega) (by unfold maxLen; have := hmH.out; omega) (Nat.le_refl _) ?_; intro w2 hown2 hgrow2; clear hi hz0 hz1 hz2; have hb2 : Below w.heap.size w w2 := ⟨hgrow2.os, hgrow2.tape, hgrow2.output, hgrow2.size, fun k hk => hgrow2.block k (by omega) (by simp)⟩; have hN2 := made_nums hown2)
    | (go_at_call 31; refine (hcall.out _ _ _ hb2 hN2).mono ?_; rintro e w4 ⟨rfl, hb4⟩; clear hcall)
    | fail)
  go_ret
  exact ⟨rfl, hb2.trans (hb4.mono hb2.size)⟩
end Go.Proofs.Ythfpdbogbmccjaa
