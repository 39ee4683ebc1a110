/- The library's stable sort at a row of numbers: merging in place. -/
import Derived.Test.YtfnkboegbclnaaaStw
namespace Go.Proofs.Ytfnkboegbclnaaa
open Go.RowKit Go.Shelf Go.Lib Go.Sort Stm
set_option linter.unusedSectionVars false
set_option linter.unusedVariables false
variable {α : Type} [Inhabited α]

/-- What the calls of one merge lean on. -/
structure SyC (enc : α → Value) (cf : α → α → Int) (T : α → α → Prop) (g : Nat) (cb : Array Value) (blk off : Nat) (d0 : Array α) (w0 : World) : Prop where
  eg : ∀ args w, (callFunc g args).run Try.prog w = .ok (.enter g args) w
  hcmp : CmpLays1 Try.prog g cb enc cf blk off d0.size w0
  R : Row1 enc w0 blk off d0
  hO : Ord (ltOf cf) T
  hsz : d0.size < 100000

theorem mid_w {i j c : Nat} (h : i + j < 1000000) (hc : c = (i + j) / 2) : wrap64 (IntKind.u64.wrap (wrap64 ((i : Int) + (j : Int))) / 2) = (c : Int) := by
  have e1 : wrap64 ((i : Int) + (j : Int)) = ((i + j : Nat) : Int) := by unfold wrap64; omega
  have e2 : IntKind.u64.wrap ((i + j : Nat) : Int) = ((i + j : Nat) : Int) := by rw [IntKind.wrap_u64]; omega
  have e3 : ((i + j : Nat) : Int) / 2 = (c : Int) := by omega
  have e4 : wrap64 (c : Int) = (c : Int) := by unfold wrap64; omega
  rw [e1, e2, e3, e4]
theorem wne1 {m a : Nat} (h : a + 1 < m) (hm : m < 1000000) : (wrap64 ((m : Int) - (a : Int)) == 1) = false := by
  have e : wrap64 ((m : Int) - (a : Int)) = (m : Int) - (a : Int) := by unfold wrap64; omega
  rw [e, beq_eq_false_iff_ne]
  omega
theorem half_le {i j : Nat} (h : i < j) (hj : j < 100000) : i ≤ (i + j) / 2 ∧ (i + j) / 2 < j := by omega
def SyM (enc : α → Value) (cf : α → α → Int) (T : α → α → Prop) (g : Nat) (cb : Array Value) (blk off cap : Nat) (d0 : Array α) (w0 : World) (n : Nat) : Prop :=
  ∀ (a m b : Nat) (d : Array α) (w : World), b - a ≤ n → d.size = d0.size → SW enc w0 blk off d w → a < m → m < b → b ≤ d.size → Stb (ltOf cf) T d → Srt T a m d → Srt T m b d →
    Calls Try.prog 43 #[.slice (some ⟨blk, off, none⟩) d0.size cap, .int .i64 a, .int .i64 m, .int .i64 b, .func (.func g) #[] cb] w fun e w' => e = .returned (.tuple #[]) ∧ ∃ d', SW enc w0 blk off d' w' ∧ Hid (Pmt a b d d' ∧ Stb (ltOf cf) T d' ∧ Srt T a b d')

/-- Place and test of two elements, as the walk wants them. -/
theorem sy_cells {enc : α → Value} {cf : α → α → Int} {T : α → α → Prop} {g : Nat} {cb : Array Value} {blk off : Nat} {d0 d : Array α} {w0 w : World} (C : SyC enc cf T g cb blk off d0 w0) (hs : d.size = d0.size) (S : SW enc w0 blk off d w) (p q : Nat) (hp : p < d.size) (hq : q < d.size) :
    (∀ (n : Nat) (os : Array Obj), (grow (w.drewN n) os).cell? ⟨blk, off + p, none⟩ = some (enc d[p]!)) ∧ (∀ (n : Nat) (os : Array Obj), (grow (w.drewN n) os).cell? ⟨blk, off + q, none⟩ = some (enc d[q]!)) ∧
    (∀ (n : Nat) (os : Array Obj), Calls Try.prog g (#[enc d[q]!, enc d[p]!] ++ cb) (grow (w.drewN n) os) fun e w' => e = .returned (.int .i64 (cf d[q]! d[p]!)) ∧ ∃ q os', w' = grow ((grow (w.drewN n) os).drewN q) os') :=
  ⟨S.cl C.R hs p hp, S.cl C.R hs q hq, S.cmp C.hcmp hs d[q]! d[p]!⟩

set_option maxHeartbeats 1000000 in
set_option maxRecDepth 100000 in
/-- One alone, put into the row behind it. -/
theorem sym_one (enc : α → Value) (cf : α → α → Int) (T : α → α → Prop) (g : Nat) (cb : Array Value) (blk off cap : Nat) (d0 : Array α) (w0 : World) (C : SyC enc cf T g cb blk off d0 w0)
    (a m b : Nat) (hm : m = a + 1) (d : Array α) (w : World) (hs : d.size = d0.size) (S : SW enc w0 blk off d w) (hmb : m < b) (hb : b ≤ d.size) (hS : Stb (ltOf cf) T d) (h1 : Srt T m b d) :
    Calls Try.prog 43 #[.slice (some ⟨blk, off, none⟩) d0.size cap, .int .i64 a, .int .i64 m, .int .i64 b, .func (.func g) #[] cb] w fun e w' => e = .returned (.tuple #[]) ∧ ∃ d', SW enc w0 blk off d' w' ∧ Hid (Pmt a b d d' ∧ Stb (ltOf cf) T d' ∧ Srt T a b d') := by
  have CH : Hid (SyC enc cf T g cb blk off d0 w0) := C
  have eg := C.eg
  have mixed := stMixed
  have a3 := stA3
  have z3 := stZ3
  have hst := C.R.hO.store Try.prog
  have hcl0 := C.R.hO.cells
  simp only [Value.cells] at hcl0
  have hsH : Hid (d.size = d0.size) := hs
  have hmH : Hid (m = a + 1) := hm
  have hmbH : Hid (m < b) := hmb
  have hbH : Hid (b ≤ d0.size) := by show _ ≤ _; omega
  have hSH : Hid (Stb (ltOf cf) T d) := hS
  have h1H : Hid (Srt T m b d) := h1
  have SH : Hid (SW enc w0 blk off d w) := S
  have hszH : Hid (d0.size < 100000) := C.hsz
  have hw0 : wrap64 ((m : Int) - (a : Int)) = 1 := by unfold wrap64; omega
  clear S hs hmb hb hS h1 C hm
  generalize hN : d0.size = N at *
  have hNH : Hid (d0.size = N) := hN
  clear hN
  go_enter Try.func43, Try.ntmps43
  go_wp2
  clear hw0
  go_loopg [10, 11] (b - m) (fun gz iv jv wr => ∃ (i j : Nat), iv = .int .i64 i ∧ jv = .int .i64 j ∧ j - i ≤ gz ∧ Hid (m ≤ i ∧ i ≤ j ∧ j ≤ b) ∧ Hid (SW enc w0 blk off d wr) ∧ Hid (∀ c, m ≤ c → c < i → T d[c]! d[a]!) ∧ Hid (∀ c, j ≤ c → c < b → T d[a]! d[c]!))
  case atStart => exact ⟨m, b, rfl, rfl, Nat.le_refl _, by have := hmbH.out; exact ⟨by omega, by omega, by omega⟩, SH, fun c h1 h2 => by omega, fun c h1 h2 => by omega⟩
  case round =>
    clear SH
    obtain ⟨i, j, rfl, rfl, hgz, hij, S1, K1, K4⟩ := hrel
    by_cases hlt : i < j
    · have hlti : (i : Int) < (j : Int) := by omega
      obtain ⟨c, hc⟩ : ∃ c, c = (i + j) / 2 := ⟨_, rfl⟩
      have hcb : i ≤ c ∧ c < j ∧ c < N := by have := hbH.out; have := hij.out; omega
      have hcz : (i + j) / 2 = c := hc.symm
      have hwij : wrap64 (IntKind.u64.wrap (wrap64 ((i : Int) + (j : Int))) / 2) = ((c : Nat) : Int) := mid_w (by have := hszH.out; have := hbH.out; have := hij.out; omega) hc
      have hwc1 : Hid (wrap64 ((c : Int) + 1) = ((c + 1 : Nat) : Int)) := by show _ = _; have := hszH.out; unfold wrap64; omega
      have hc5 : Hid (c ≤ 100000) := by show _ ≤ _; have := hszH.out; omega
      have hcN : (c : Int) < (N : Int) := by omega
      have haN : (a : Int) < (N : Int) := by have := hbH.out; have := hmbH.out; have := hmH.out; omega
      obtain ⟨l1, l2, l3⟩ := sy_cells CH.out (by rw [hsH.out, hNH.out]) S1.out a c (by rw [hsH.out]; omega) (by rw [hsH.out]; omega)
      have hcH : Hid (i ≤ c ∧ c < j) := ⟨hcb.1, hcb.2.1⟩
      have hyes : Hid (cf d[c]! d[a]! < 0 → ∀ x, m ≤ x → x < c + 1 → T d[x]! d[a]!) := fun hlt x x1 x2 => by
        have ht : T d[c]! d[a]! := hSH.out.yes (by have := hij.out; have := hmH.out; omega) (by rw [hsH.out]; omega) (decide_eq_true hlt)
        by_cases e : x = c
        · rw [e]; exact ht
        · exact CH.out.hO.tr _ _ _ (h1H.out x c x1 (by omega) (by have := hij.out; omega)) ht
      have hno : Hid (¬ cf d[c]! d[a]! < 0 → ∀ x, c ≤ x → x < b → T d[a]! d[x]!) := fun hlt x x1 x2 => by
        have ht : T d[a]! d[c]! := hSH.out.no CH.out.hO (by have := hij.out; have := hmH.out; omega) (by rw [hsH.out]; omega) (decide_eq_false hlt)
        by_cases e : x = c
        · rw [e]; exact ht
        · exact CH.out.hO.tr _ _ _ ht (h1H.out c x (by have := hij.out; omega) (by omega) x2)
      clear hcb hc hcz hlt
      generalize d[a]! = x at *
      generalize d[c]! = y at *
      by_cases hv : cf y x < 0
      · have hK := hyes.out hv
        have hKH : Hid _ := hK
        have hd : decide (cf y x < 0) = true := decide_eq_true hv
        clear hyes hno hK
        go_wp2_with fail
        go_quiet_grown (first | (go_at_fn g; refine Calls.grown_of (l3 _ _)))
        have S2 : Hid (SW enc w0 blk off d (grow (wr.drewN nq) osq)) := S1.out.grown nq osq
        clear l1 l2 l3 S1 K1
        generalize grow (wr.drewN nq) osq = w2 at S2 ⊢
        clear nq osq hwij
        go_wp2
        go_roundg (j - (c + 1))
        case measure => have := hcH.out; omega
        case rel => exact ⟨c + 1, j, by first | exact int_wsucc hc5.out | exact int_succ c, rfl, Nat.le_refl _, by have := hij.out; have := hcH.out; exact ⟨by omega, by omega, by omega⟩, S2, hKH, K4⟩
      · have hKH : Hid _ := hno.out hv
        have hd : decide (cf y x < 0) = false := decide_eq_false hv
        clear hyes hno
        go_wp2_with fail
        go_quiet_grown (first | (go_at_fn g; refine Calls.grown_of (l3 _ _)))
        have S2 : Hid (SW enc w0 blk off d (grow (wr.drewN nq) osq)) := S1.out.grown nq osq
        clear l1 l2 l3 S1 K4
        generalize grow (wr.drewN nq) osq = w2 at S2 ⊢
        clear nq osq hwij
        go_wp2
        go_roundg (c - i)
        case measure => have := hcH.out; omega
        case rel => exact ⟨i, c, rfl, rfl, Nat.le_refl _, by have := hij.out; have := hcH.out; exact ⟨by omega, by omega, by omega⟩, S2, K1, hKH⟩
    · have hlti : ¬ (i : Int) < (j : Int) := by omega
      have e : i = j := by have := hij.out; omega
      subst e
      have hwi : wrap64 ((i : Int) - 1) = ((i - 1 : Nat) : Int) := by have := hij.out; have := hszH.out; have := hbH.out; have := hmH.out; unfold wrap64; omega
      have hwi5 : Hid (m ≤ i ∧ i ≤ b) := by have := hij.out; exact ⟨by omega, by omega⟩
      go_wp2
      go_loopg [13] (i - a) (fun gz kv wr2 => ∃ (k : Nat) (dk : Array α), kv = .int .i64 k ∧ i - k ≤ gz ∧ Hid (a ≤ k ∧ k + 1 ≤ i) ∧ Hid (SW enc w0 blk off dk wr2) ∧ Hid (Ix d dk (rotI a (a + 1) (k + 1))))
      case atStart => exact ⟨a, d, rfl, Nat.le_refl _, by have := hwi5.out; have := hmH.out; exact ⟨by omega, by omega⟩, S1, (Ix.refl d).congr fun k => rotI_none.symm⟩
      case round =>
        clear S1
        rename World => wr2
        obtain ⟨k, dk, rfl, hgz2, hki, S1, HI⟩ := hrel
        by_cases hk : k < i - 1
        · have hkz : (k : Int) < ((i - 1 : Nat) : Int) := by omega
          have hkz2 : (k : Int) < (i : Int) - 1 := by omega
          have hdk : dk.size = d0.size := by rw [HI.out.size, hsH.out, hNH.out]
          have e1 : k < dk.size := by rw [HI.out.size, hsH.out]; have := hbH.out; have := hwi5.out; omega
          have e2 : k + 1 < dk.size := by rw [HI.out.size, hsH.out]; have := hbH.out; have := hwi5.out; omega
          have e3 : k + 1 < N := by have := hbH.out; have := hwi5.out; omega
          have hk5 : Hid (k ≤ 100000) := by show _ ≤ _; have := hszH.out; omega
          obtain ⟨iN, hiN⟩ : ∃ q, q = k := ⟨_, rfl⟩
          obtain ⟨jN, hjN⟩ : ∃ q, q = k + 1 := ⟨_, rfl⟩
          have ea : ((k : Int)).toNat = iN := by omega
          have pa : (0 : Int) ≤ (k : Int) := by omega
          have ba : (k : Int) < (N : Int) := by omega
          have eb : ((k : Int) + 1).toNat = jN := by omega
          have pb : (0 : Int) ≤ (k : Int) + 1 := by omega
          have bb : (k : Int) + 1 < (N : Int) := by omega
          have rb : IntKind.i64.wrap ((k : Int) + 1) = (k : Int) + 1 := by rw [IntKind.wrap_i64]; have := hszH.out; omega
          obtain ⟨x, hx⟩ : ∃ x, x = dk[k]! := ⟨_, rfl⟩
          obtain ⟨y, hy⟩ : ∃ x, x = dk[k + 1]! := ⟨_, rfl⟩
          have S3 : Hid (SW enc w0 blk off (swp dk k (k + 1)) ((wr2.setCell ⟨blk, off + iN, none⟩ (enc y)).setCell ⟨blk, off + jN, none⟩ (enc x)).drew) := by rw [hiN, hjN, hx, hy]; exact S1.out.swapped CH.out.R k (k + 1) e1 e2
          have X3 : Hid (Ix d (swp dk k (k + 1)) (rotI a (a + 1) (k + 2))) := (HI.out.trans (Ix.swp e1 e2)).congr fun p => rotI_up hki.out.1
          have c1 := S1.out.c1 CH.out.R hdk k e1
          have c2 := S1.out.c1 CH.out.R hdk (k + 1) e2
          have f1 := S1.out.f1 CH.out.R hdk k e1
          have f2 := S1.out.f1 CH.out.R hdk (k + 1) e2
          obtain ⟨u, c3⟩ := S1.out.c2 CH.out.R hdk k (k + 1) e1 e2 (enc y)
          rw [← hjN, ← hiN] at c3
          rw [← hx, ← hiN] at c1
          rw [← hy, ← hjN] at c2
          rw [← hiN] at f1
          rw [← hjN] at f2
          have hkH : Hid (k < i - 1) := hk
          clear S1 HI hx hy hiN hjN e1 e2 e3 hdk hk
          go_wp2_with fail
          go_big_region_o
          clear c1 c2 c3 f1 f2
          generalize ((wr2.setCell ⟨blk, off + iN, none⟩ (enc y)).setCell ⟨blk, off + jN, none⟩ (enc x)).drew = w3 at S3 ⊢
          clear ea eb pa pb ba bb rb hkz hkz2
          go_wp2
          go_roundg (i - (k + 1))
          case measure => have := hkH.out; omega
          case rel => exact ⟨k + 1, _, by first | exact int_wsucc hk5.out | exact int_succ k, Nat.le_refl _, by have := hki.out; have := hkH.out; exact ⟨by omega, by omega⟩, S3, X3⟩
        · have hkz : ¬ (k : Int) < ((i - 1 : Nat) : Int) := by omega
          have hkz2 : ¬ (k : Int) < (i : Int) - 1 := by have := hki.out; omega
          have eH : Hid (i = k + 1) := by have := hki.out; show _ = _; omega
          clear hk
          go_wp2
          (try simp only [Exit.inBlock, Exit.then]); refine bodyPost_ret (results_none rfl _ _ _) rfl ?_
          have e := eH.out
          refine ⟨rfl, dk, S1.out, ?_⟩
          have hm1 := hmH.out
          have hmb := hmbH.out
          have hi1 := hwi5.out
          have h2 := h1H.out
          have hb9 := hbH.out
          subst hm1
          refine mrg (s := a) (m := a + 1) (e := i) CH.out.hO hSH.out (by rw [hsH.out]; exact hb9) ⟨Nat.le_refl _, by omega, by omega, by omega⟩ (fun p q h1 h2 h3 => by omega) h2 (by rw [e]; exact HI.out) (fun x y h1 h2 h3 h4 => ?_) (fun x y h1 h2 => by omega) (fun x y h1 h2 h3 h4 => ?_)
          · have e2 : x = a := by omega
            rw [e2]; exact K1.out y h3 h4
          · have e2 : x = a := by omega
            rw [e2]; exact K4.out y h3 h4
set_option maxHeartbeats 1000000 in
set_option maxRecDepth 100000 in
/-- One alone, put into the row ahead of it. -/
theorem sym_last (enc : α → Value) (cf : α → α → Int) (T : α → α → Prop) (g : Nat) (cb : Array Value) (blk off cap : Nat) (d0 : Array α) (w0 : World) (C : SyC enc cf T g cb blk off d0 w0)
    (a m b : Nat) (hm : b = m + 1) (d : Array α) (w : World) (hs : d.size = d0.size) (S : SW enc w0 blk off d w) (hmb : a + 1 < m) (hb : b ≤ d.size) (hS : Stb (ltOf cf) T d) (h1 : Srt T a m d) :
    Calls Try.prog 43 #[.slice (some ⟨blk, off, none⟩) d0.size cap, .int .i64 a, .int .i64 m, .int .i64 b, .func (.func g) #[] cb] w fun e w' => e = .returned (.tuple #[]) ∧ ∃ d', SW enc w0 blk off d' w' ∧ Hid (Pmt a b d d' ∧ Stb (ltOf cf) T d' ∧ Srt T a b d') := by
  have CH : Hid (SyC enc cf T g cb blk off d0 w0) := C
  have eg := C.eg
  have mixed := stMixed
  have a3 := stA3
  have z3 := stZ3
  have hst := C.R.hO.store Try.prog
  have hcl0 := C.R.hO.cells
  simp only [Value.cells] at hcl0
  have hsH : Hid (d.size = d0.size) := hs
  have hmH : Hid (b = m + 1) := hm
  have hmbH : Hid (a + 1 < m) := hmb
  have hbH : Hid (b ≤ d0.size) := by show _ ≤ _; omega
  have hSH : Hid (Stb (ltOf cf) T d) := hS
  have h1H : Hid (Srt T a m d) := h1
  have SH : Hid (SW enc w0 blk off d w) := S
  have hszH : Hid (d0.size < 100000) := C.hsz
  have hb0 : (wrap64 ((m : Int) - (a : Int)) == 1) = false := wne1 hmb (by have := C.hsz; omega)
  have hw1 : wrap64 ((b : Int) - (m : Int)) = 1 := by unfold wrap64; omega
  clear S hs hmb hb hS h1 C hm
  generalize hN : d0.size = N at *
  have hNH : Hid (d0.size = N) := hN
  clear hN
  go_enter Try.func43, Try.ntmps43
  go_wp2
  clear hb0 hw1
  go_loopg [14, 15] (m - a) (fun gz iv jv wr => ∃ (i j : Nat), iv = .int .i64 i ∧ jv = .int .i64 j ∧ j - i ≤ gz ∧ Hid (a ≤ i ∧ i ≤ j ∧ j ≤ m) ∧ Hid (SW enc w0 blk off d wr) ∧ Hid (∀ c, a ≤ c → c < i → T d[c]! d[m]!) ∧ Hid (∀ c, j ≤ c → c < m → T d[m]! d[c]!))
  case atStart => exact ⟨a, m, rfl, rfl, Nat.le_refl _, by have := hmbH.out; exact ⟨by omega, by omega, by omega⟩, SH, fun c h1 h2 => by omega, fun c h1 h2 => by omega⟩
  case round =>
    clear SH
    obtain ⟨i, j, rfl, rfl, hgz, hij, S1, K3, K1⟩ := hrel
    by_cases hlt : i < j
    · have hlti : (i : Int) < (j : Int) := by omega
      obtain ⟨c, hc⟩ : ∃ c, c = (i + j) / 2 := ⟨_, rfl⟩
      have hcb : i ≤ c ∧ c < j ∧ c < N := by have := hbH.out; have := hij.out; have := hmH.out; omega
      have hcz : (i + j) / 2 = c := hc.symm
      have hwij : wrap64 (IntKind.u64.wrap (wrap64 ((i : Int) + (j : Int))) / 2) = ((c : Nat) : Int) := mid_w (by have := hszH.out; have := hbH.out; have := hij.out; have := hmH.out; omega) hc
      have hwc1 : Hid (wrap64 ((c : Int) + 1) = ((c + 1 : Nat) : Int)) := by show _ = _; have := hszH.out; unfold wrap64; omega
      have hc5 : Hid (c ≤ 100000) := by show _ ≤ _; have := hszH.out; omega
      have hcN : (c : Int) < (N : Int) := by omega
      have haN : (m : Int) < (N : Int) := by have := hbH.out; have := hmH.out; omega
      obtain ⟨l1, l2, l3⟩ := sy_cells CH.out (by rw [hsH.out, hNH.out]) S1.out c m (by rw [hsH.out]; omega) (by rw [hsH.out]; omega)
      have hcH : Hid (i ≤ c ∧ c < j) := ⟨hcb.1, hcb.2.1⟩
      have hyes : Hid (cf d[m]! d[c]! < 0 → ∀ x, c ≤ x → x < m → T d[m]! d[x]!) := fun hlt x x1 x2 => by
        have ht : T d[m]! d[c]! := hSH.out.yes (by have := hij.out; have := hmH.out; omega) (by rw [hsH.out]; omega) (decide_eq_true hlt)
        by_cases e : x = c
        · rw [e]; exact ht
        · exact CH.out.hO.tr _ _ _ ht (h1H.out c x (by have := hij.out; omega) (by omega) x2)
      have hno : Hid (¬ cf d[m]! d[c]! < 0 → ∀ x, a ≤ x → x < c + 1 → T d[x]! d[m]!) := fun hlt x x1 x2 => by
        have ht : T d[c]! d[m]! := hSH.out.no CH.out.hO (by have := hij.out; have := hmH.out; omega) (by rw [hsH.out]; omega) (decide_eq_false hlt)
        by_cases e : x = c
        · rw [e]; exact ht
        · exact CH.out.hO.tr _ _ _ (h1H.out x c x1 (by omega) (by have := hij.out; omega)) ht
      clear hcb hc hcz hlt
      generalize d[m]! = x at *
      generalize d[c]! = y at *
      by_cases hv : cf x y < 0
      · have hKH : Hid _ := hyes.out hv
        have hd : decide (cf x y < 0) = true := decide_eq_true hv
        clear hyes hno
        go_wp2_with fail
        go_quiet_grown (first | (go_at_fn g; refine Calls.grown_of (l3 _ _)))
        have S2 : Hid (SW enc w0 blk off d (grow (wr.drewN nq) osq)) := S1.out.grown nq osq
        clear l1 l2 l3 S1 K1
        generalize grow (wr.drewN nq) osq = w2 at S2 ⊢
        clear nq osq hwij
        go_wp2
        go_roundg (c - i)
        case measure => have := hcH.out; omega
        case rel => exact ⟨i, c, rfl, rfl, Nat.le_refl _, by have := hij.out; have := hcH.out; exact ⟨by omega, by omega, by omega⟩, S2, K3, hKH⟩
      · have hKH : Hid _ := hno.out hv
        have hd : decide (cf x y < 0) = false := decide_eq_false hv
        clear hyes hno
        go_wp2_with fail
        go_quiet_grown (first | (go_at_fn g; refine Calls.grown_of (l3 _ _)))
        have S2 : Hid (SW enc w0 blk off d (grow (wr.drewN nq) osq)) := S1.out.grown nq osq
        clear l1 l2 l3 S1 K3
        generalize grow (wr.drewN nq) osq = w2 at S2 ⊢
        clear nq osq hwij
        go_wp2
        go_roundg (j - (c + 1))
        case measure => have := hcH.out; omega
        case rel => exact ⟨c + 1, j, by first | exact int_wsucc hc5.out | exact int_succ c, rfl, Nat.le_refl _, by have := hij.out; have := hcH.out; exact ⟨by omega, by omega, by omega⟩, S2, hKH, K1⟩
    · have hlti : ¬ (i : Int) < (j : Int) := by omega
      have e : i = j := by have := hij.out; omega
      subst e
      have hwi5 : Hid (a ≤ i ∧ i ≤ m) := by have := hij.out; exact ⟨by omega, by omega⟩
      go_wp2
      go_loopg [17] (m - i) (fun gz kv wr2 => ∃ (k : Nat) (dk : Array α), kv = .int .i64 k ∧ k - i ≤ gz ∧ Hid (i ≤ k ∧ k ≤ m) ∧ Hid (SW enc w0 blk off dk wr2) ∧ Hid (Ix d dk (rotI k m (m + 1))))
      case atStart => exact ⟨m, d, rfl, Nat.le_refl _, by have := hwi5.out; exact ⟨by omega, by omega⟩, S1, (Ix.refl d).congr fun k => rotI_none'.symm⟩
      case round =>
        clear S1
        rename World => wr2
        obtain ⟨k, dk, rfl, hgz2, hki, S1, HI⟩ := hrel
        by_cases hk : i < k
        · have hkz : (i : Int) < (k : Int) := by omega
          have hdk : dk.size = d0.size := by rw [HI.out.size, hsH.out, hNH.out]
          obtain ⟨kp, hkp⟩ : ∃ q, q = k - 1 := ⟨_, rfl⟩
          have e0 : k < N := by have := hbH.out; have := hki.out; have := hmH.out; omega
          have e1 : k < dk.size := by rw [HI.out.size, hsH.out]; exact e0
          have e2 : k - 1 < dk.size := by omega
          have hk5 : Hid (k ≤ 100000) := by show _ ≤ _; have := hszH.out; omega
          obtain ⟨iN, hiN⟩ : ∃ q, q = k := ⟨_, rfl⟩
          obtain ⟨jN, hjN⟩ : ∃ q, q = k - 1 := ⟨_, rfl⟩
          have ea : ((k : Int)).toNat = iN := by omega
          have pa : (0 : Int) ≤ (k : Int) := by omega
          have ba : (k : Int) < (N : Int) := by omega
          have eb : ((k : Int) - 1).toNat = jN := by omega
          have pb : (0 : Int) ≤ (k : Int) - 1 := by omega
          have bb : (k : Int) - 1 < (N : Int) := by omega
          have rb : IntKind.i64.wrap ((k : Int) - 1) = (k : Int) - 1 := by rw [IntKind.wrap_i64]; have := hszH.out; omega
          obtain ⟨x, hx⟩ : ∃ x, x = dk[k]! := ⟨_, rfl⟩
          obtain ⟨y, hy⟩ : ∃ x, x = dk[k - 1]! := ⟨_, rfl⟩
          have S3 : Hid (SW enc w0 blk off (swp dk k (k - 1)) ((wr2.setCell ⟨blk, off + iN, none⟩ (enc y)).setCell ⟨blk, off + jN, none⟩ (enc x)).drew) := by rw [hiN, hjN, hx, hy]; exact S1.out.swapped CH.out.R k (k - 1) e1 e2
          have X3 : Hid (Ix d (swp dk k (k - 1)) (rotI (k - 1) m (m + 1))) := (HI.out.trans (Ix.swp e1 e2)).congr fun p => rotI_down (by omega) hki.out.2
          have c1 := S1.out.c1 CH.out.R hdk k e1
          have c2 := S1.out.c1 CH.out.R hdk (k - 1) e2
          have f1 := S1.out.f1 CH.out.R hdk k e1
          have f2 := S1.out.f1 CH.out.R hdk (k - 1) e2
          obtain ⟨u, c3⟩ := S1.out.c2 CH.out.R hdk k (k - 1) e1 e2 (enc y)
          rw [← hjN, ← hiN] at c3
          rw [← hx, ← hiN] at c1
          rw [← hy, ← hjN] at c2
          rw [← hiN] at f1
          rw [← hjN] at f2
          have hkH : Hid (i < k) := hk
          have hkw : Hid (wrap64 ((k : Int) - 1) = ((k - 1 : Nat) : Int)) := by show _ = _; have := hszH.out; unfold wrap64; omega
          clear S1 HI hx hy hiN hjN e1 e2 e0 hdk hk hkp
          go_wp2_with fail
          go_big_region_o
          clear c1 c2 c3 f1 f2
          generalize ((wr2.setCell ⟨blk, off + iN, none⟩ (enc y)).setCell ⟨blk, off + jN, none⟩ (enc x)).drew = w3 at S3 ⊢
          clear ea eb pa pb ba bb rb hkz
          go_wp2
          go_roundg (k - 1 - i)
          case measure => have := hkH.out; omega
          case rel => exact ⟨k - 1, _, by first | exact congrArg _ hkw.out | (congr 1; have := hkH.out; omega), Nat.le_refl _, by have := hki.out; have := hkH.out; exact ⟨by omega, by omega⟩, S3, X3⟩
        · have hkz : ¬ (i : Int) < (k : Int) := by omega
          have eH : Hid (k = i) := by have := hki.out; show _ = _; omega
          clear hk
          go_wp2
          (try simp only [Exit.inBlock, Exit.then]); refine bodyPost_ret (results_none rfl _ _ _) rfl ?_
          have e := eH.out
          refine ⟨rfl, dk, S1.out, ?_⟩
          have hm1 := hmH.out
          have hmb := hmbH.out
          have hi1 := hwi5.out
          have h1 := h1H.out
          have hb9 := hbH.out
          subst hm1
          refine mrg (s := i) (m := m) (e := m + 1) CH.out.hO hSH.out (by rw [hsH.out]; exact hb9) ⟨by omega, by omega, by omega, Nat.le_refl _⟩ h1 (fun p q h1 h2 h3 => by omega) (by rw [← e]; exact HI.out) (fun x y h1 h2 h3 h4 => ?_) (fun x y h1 h2 h3 h4 => ?_) (fun x y h1 h2 h3 h4 => by omega)
          · have e2 : y = m := by omega
            rw [e2]; exact K1.out x h1 h2
          · have e2 : y = m := by omega
            rw [e2]; exact K3.out x h1 h2
end Go.Proofs.Ytfnkboegbclnaaa
