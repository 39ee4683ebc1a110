/- Mathematics of jobs with edges on several hands: the run, step by step. No program is named here. -/
import Derived.Test.YthfpdbogbmccjaaDoorJwm
namespace Go.Proofs.YthfpdbogbmccjaaDoor
open Go.RowKit Gm Pm
set_option linter.unusedSectionVars false
set_option linter.unusedVariables false

inductive Run (n m : Nat) (l : List Ed) (d : Nat → Int) : Int → Wst → Prop
  | start : Run n m l d 0 wst0
  | bgn {t : Int} {s : Wst} {i h : Nat} : Run n m l d t s → i < n → h < m → s.F h ≤ t → (∀ k, k < h → t < s.F k) → rdy l t s i → (∀ k, k < i → ¬ rdy l t s k) → Run n m l d t (wbg d t s i h)
  | tick {t : Int} {s : Wst} : Run n m l d t s → stk n m l t s → nxF s.E t n ≠ nvr → Run n m l d (nxF s.E t n) s
theorem fp_nvr {E : Nat → Int} {i j : Nat} {v t : Int} (h : E i = nvr) (ht : t ≤ nvr) (hj : t ≤ fp E i v j) : t ≤ E j := by
  by_cases e : j = i
  · rw [e, h]; exact ht
  · rwa [fp_ne e] at hj
theorem Run.both {n m : Nat} {l : List Ed} {d : Nat → Int} {t : Int} {s : Wst} (h : Run n m l d t s) (hg : Gr n l) (hd : ∀ i, i < n → 0 ≤ d i ∧ d i ≤ 1000000000) : Win n m l d t s ∧ 0 ≤ t ∧ t + 1000000000 * (ctE s.E (t + 1) n : Int) ≤ 1000000000 * (n : Int) := by
  have h60 := hg.n60
  induction h with
  | start =>
    refine ⟨Win.start n m l d, by omega, ?_⟩
    have := ctE_le wst0.E (0 + 1) n
    omega
  | bgn hr hi hh hF hl hrd hl2 ih =>
    obtain ⟨hw, h0, hb⟩ := ih
    rename_i t s i h
    have htb : t ≤ 1000000000000 := by omega
    refine ⟨hw.bgn hg hd ⟨h0, htb⟩ hi hh hF hrd, h0, ?_⟩
    have h1 : ctE (wbg d t s i h).E (t + 1) n ≤ ctE s.E (t + 1) n := ctE_mono fun j _ hj => fp_nvr hrd.1 (by unfold nvr; omega) hj
    omega
  | tick hr hs hn ih =>
    obtain ⟨hw, h0, hb⟩ := ih
    rename_i t s
    rcases nxF_is s.E t n with e | ⟨i, hi, hti, e⟩
    · exact absurd e hn
    · have hle : t ≤ nxF s.E t n := by omega
      refine ⟨hw.later hle, by omega, ?_⟩
      have h1 : ctE s.E (nxF s.E t n + 1) n < ctE s.E (t + 1) n := ctE_lt (i := i) (fun j _ hj => by omega) hi (by omega) (by omega)
      have h2 : nxF s.E t n ≤ t + 1000000000 := by
        rcases hw.job i hi with e2 | ⟨a1, a2, a3, _⟩
        · exact absurd (e.trans e2) hn
        · have := hd i hi; omega
      omega
theorem Run.bnd {n m : Nat} {l : List Ed} {d : Nat → Int} {t : Int} {s : Wst} (h : Run n m l d t s) (hg : Gr n l) (hd : ∀ i, i < n → 0 ≤ d i ∧ d i ≤ 1000000000) : 0 ≤ t ∧ t ≤ 60000000000 := by
  have h1 := h.both hg hd
  have h60 := hg.n60
  omega
theorem Run.lt {n : Nat} {E : Nat → Int} {t : Int} (hn : nxF E t n ≠ nvr) : ctE E (nxF E t n + 1) n < ctE E (t + 1) n := by
  rcases nxF_is E t n with e | ⟨i, hi, hti, e⟩
  · exact absurd e hn
  · exact ctE_lt (i := i) (fun j _ hj => by omega) hi (by omega) (by omega)
end Go.Proofs.YthfpdbogbmccjaaDoor
