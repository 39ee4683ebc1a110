/- Package list: the work's method run. -/
import Derived.Test.YthfpdbogbmccjaaDoorJwg
import Derived.Test.YthfpdbogbmccjaaDoorJwr
import Derived.Deep.LoopGhost
namespace Go.Proofs.YthfpdbogbmccjaaDoor
open Go.RowKit Gm Pm
set_option linter.unusedSectionVars false
set_option linter.unusedVariables false

set_option maxHeartbeats 4000000 in
set_option maxRecDepth 100000 in
theorem run_any {w : World} {g0 gp gA gE gF gT B : Nat} {pd : Option Addr} {cd n m : Nat} {l : List Ed} {d : List Int} (hk : Wk w g0 gp gA gE gF gT B pd cd n m l d wst0) (hg : Gr n l) (hl : l.length ≤ 400) (hm : m ≤ 20) (hD : ∀ i, i < n → 0 ≤ nm d i ∧ nm d i ≤ 1000000000) :
    Calls Tryd.prog 14 #[.pointer (some ⟨gp, 0, none⟩)] w fun e w' => (∃ t s, e = .returned (.int .i64 t) ∧ Run n m l (nm d) t s ∧ stk n m l t s ∧ nxF s.E t n = nvr ∧ Wk w' g0 gp gA gE gF gT B pd cd n m l d s) ∧ Below g0 w w' := by
  have hkH : Hid (Wk w g0 gp gA gE gF gT B pd cd n m l d wst0) := hk
  have hgH : Hid (Gr n l) := hg
  have hlH : Hid (l.length ≤ 400) := hl
  have hmH : Hid (m ≤ 20) := hm
  have hDH : Hid (∀ i, i < n → 0 ≤ nm d i ∧ nm d i ≤ 1000000000) := hD
  clear hk hg hl hm hD
  go_enter Tryd.func14, Tryd.ntmps14
  go_wp2
  go_loopg [3, 4] (n + 2) (fun gz tv xv wr => ∃ (t x : Int) (s : Wst), tv = .int .i64 t ∧ xv = .int .i64 x ∧ Hid (x ≠ nvr → Run n m l (nm d) x s ∧ ctE s.E (x + 1) n + 1 ≤ gz) ∧ Hid (x = nvr → Run n m l (nm d) t s ∧ stk n m l t s ∧ nxF s.E t n = nvr) ∧ Hid (Wk wr g0 gp gA gE gF gT B pd cd n m l d s) ∧ Hid (Below g0 w wr))
  case atStart => exact ⟨0, 0, wst0, rfl, rfl, fun _ => ⟨.start, by have := ctE_le wst0.E (0 + 1) n; omega⟩, fun h => absurd h (by decide), hkH, Below.refl _ _⟩
  case round =>
    clear hkH
    obtain ⟨t, x, s, rfl, rfl, hrunH, hendH, hkH, hbH⟩ := hrel
    by_cases hx : x = 9223372036854775807
    · have hend : Hid (Run n m l (nm d) t s ∧ stk n m l t s ∧ nxF s.E t n = nvr) := hendH.out hx
      subst hx
      clear hrunH hendH
      go_wp2
      go_ret
      exact ⟨⟨t, s, rfl, hend.out.1, hend.out.2.1, hend.out.2.2, hkH.out⟩, hbH.out⟩
    · have hrun : Hid (Run n m l (nm d) x s ∧ ctE s.E (x + 1) n + 1 ≤ gk) := hrunH.out hx
      obtain ⟨c0, hc0⟩ : ∃ c0, ctE s.E (x + 1) n = c0 := ⟨_, rfl⟩
      have hc0H : Hid (c0 + 1 ≤ gk) := by rw [← hc0]; exact hrun.out.2
      have hrun0 : Hid (Run n m l (nm d) x s ∧ ctE s.E (x + 1) n ≤ c0) := ⟨hrun.out.1, by omega⟩
      clear hrunH hendH hc0 hrun
      go_wp2
      have hxH : Hid (x ≠ nvr) := hx
      clear hx
      rename (x != 9223372036854775807) = true => hq
      clear hq
      go_loopg [12] n (fun gz2 _ wq => ∃ (s2 : Wst), ctN s2.E n ≤ gz2 ∧ Hid (Run n m l (nm d) x s2 ∧ ctE s2.E (x + 1) n ≤ c0) ∧ Hid (Wk wq g0 gp gA gE gF gT B pd cd n m l d s2) ∧ Hid (Below g0 w wq))
      case atStart => exact ⟨s, ctN_le _ _, hrun0, hkH, hbH⟩
      case round =>
        clear hkH hbH hrun0
        rename World => wq
        obtain ⟨s2, hgz2, hrunH, hkH, hbH⟩ := hrel
        have hb0 := hrunH.out.1.bnd hgH.out hDH.out
        have hbt : Hid (0 ≤ x ∧ x ≤ 1000000000000) := ⟨hb0.1, by omega⟩
        have hg0 : Hid (g0 ≤ wq.heap.size) := by have h1 := hkH.out.lt.1; have h2 := hkH.out.lo.1; show _ ≤ _; omega
        have hbe := begin_any hkH.out hgH.out hlH.out hmH.out hDH.out x hbt.out
        have hgz2H : Hid (ctN s2.E n ≤ gk) := hgz2
        clear hb0 hgz2
        go_wp2_with fail
        refine hbe.mono ?_
        clear hbe
        rintro e w2 ⟨⟨i, h, rfl, hi, hh, hF, hleast, hrd, hleast2, hk2⟩ | ⟨rfl, hst, hk2⟩, hb2⟩
        · have hrun2 : Hid (Run n m l (nm d) x (wbg (nm d) x s2 i h)) := .bgn hrunH.out.1 hi hh hF hleast hrd hleast2
          have hct : Hid (ctE (wbg (nm d) x s2 i h).E (x + 1) n ≤ ctE s2.E (x + 1) n) := ctE_mono fun j _ hj => fp_nvr hrd.1 (by have := hbt.out; unfold nvr; omega) hj
          have hcn : Hid (ctN (wbg (nm d) x s2 i h).E n + 1 = ctN s2.E n) := by
            have h1 := ctN_fp (v := x + nm d i) (by have := hbt.out; have := hDH.out i hi; unfold nvr; omega) hrd.1 n
            rw [if_pos hi] at h1
            exact h1
          have hk2H : Hid (Wk w2 g0 gp gA gE gF gT B pd cd n m l d (wbg (nm d) x s2 i h)) := hk2
          have hb2H : Hid (Below g0 w w2) := hbH.out.trans hb2
          clear hi hh hF hleast hrd hleast2 hk2 hb2 hkH hbH
          go_wp2
          go_roundg (ctN (wbg (nm d) x s2 i h).E n)
          case measure => have h1 := hcn.out; have h2 := hgz2H.out; omega
          case rel => exact ⟨_, Nat.le_refl _, ⟨hrun2.out, by have h1 := hct.out; have h2 := hrunH.out.2; omega⟩, hk2H, hb2H⟩
        · have hst2 : Hid (stk n m l x s2) := hst
          have hk2H : Hid (Wk w2 g0 gp gA gE gF gT B pd cd n m l d s2) := hk2
          have hb2H : Hid (Below g0 w w2) := hbH.out.trans hb2
          have hnx := next_any hk2 hgH.out.n60 x
          have hrn : Hid (Run n m l (nm d) x s2) := hrunH.out.1
          have hcm : Hid (ctE s2.E (x + 1) n + 1 ≤ c0 + 1) := by have := hrunH.out.2; show _ ≤ _; omega
          clear hst hk2 hb2 hkH hbH hrunH
          obtain ⟨x2, hx2⟩ : ∃ x2, nxF s2.E x n = x2 := ⟨_, rfl⟩
          have hx2H : Hid (nxF s2.E x n = x2) := hx2
          rw [hx2] at hnx
          clear hx2
          go_wp2_with (first
            | (go_at_call 26; refine hnx.mono ?_; rintro e w' ⟨rfl, hw'⟩; have hw'' := hw'.symm; subst hw''; clear hnx)
            | go_in)
          go_roundg (ctE s2.E (x + 1) n)
          case measure => have h1 := hcm.out; have h2 := hc0H.out; omega
          case rel =>
            refine ⟨x, x2, s2, rfl, rfl, fun hne => ?_, fun he => ?_, hk2H, hb2H⟩
            · have h1 : nxF s2.E x n ≠ nvr := by rw [hx2H.out]; exact hne
              have h2 := Run.lt h1
              have h3 := Run.tick hrn.out hst2.out h1
              rw [hx2H.out] at h2 h3
              exact ⟨h3, h2⟩
            · exact ⟨hrn.out, hst2.out, by rw [hx2H.out]; exact he⟩
end Go.Proofs.YthfpdbogbmccjaaDoor
