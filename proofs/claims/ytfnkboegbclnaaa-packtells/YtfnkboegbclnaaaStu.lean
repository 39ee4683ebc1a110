/- The library's stable sort at a row of one cell each: merging in place, the longer row ahead. -/
import Derived.Test.YtfnkboegbclnaaaSty
namespace Go.Proofs.Ytfnkboegbclnaaa
open Go.RowKit Go.Shelf Go.Lib Go.Sort Stm
set_option linter.unusedSectionVars false
set_option linter.unusedVariables false
variable {α : Type} [Inhabited α]

theorem wrS {x y z : Nat} (h : x = y + z) (hx : x < 1000000) : wrap64 ((x : Int) - (y : Int)) = (z : Int) := by unfold wrap64; omega
theorem wrS' {x y z : Nat} (h : x = y + z) (hx : x < 1000000) : IntKind.i64.wrap ((x : Int) - (y : Int)) = (z : Int) := by rw [IntKind.wrap_i64]; omega
theorem wrA {x y z : Nat} (h : z = x + y) (hx : z < 1000000) : wrap64 ((x : Int) + (y : Int)) = (z : Int) := by unfold wrap64; omega
theorem wrD {x z : Nat} (h : x = z + 1) (hx : x < 1000000) : wrap64 ((x : Int) - 1) = (z : Int) := by unfold wrap64; omega
theorem rot_id {d : Array α} {s m e : Nat} (h : s ≤ m ∧ m ≤ e) (hn : ¬ (s < m ∧ m < e)) : Ix d d (rotI s m e) := (Ix.refl d).congr fun k => by
  unfold rotI
  repeat' split
  all_goals omega

set_option maxHeartbeats 4000000 in
set_option maxRecDepth 100000 in
theorem sym_hi (enc : α → Value) (cf : α → α → Int) (T : α → α → Prop) (g : Nat) (cb : Array Value) (blk off cap : Nat) (d0 : Array α) (w0 : World) (C : SyC enc cf T g cb blk off d0 w0) (n : Nat) (IH : SyM enc cf T g cb blk off cap d0 w0 n)
    (a m b mid s0 r0 nn pp : Nat) (d : Array α) (w : World) (hn : b - a ≤ n + 1) (hs : d.size = d0.size) (S : SW enc w0 blk off d w) (hb : b ≤ d.size) (hS : Stb (ltOf cf) T d) (h1 : Srt T a m d) (h2 : Srt T m b d) (ha2 : a + 1 < m) (hb2 : m + 1 < b) (hB : Bnd a m b mid s0 r0) (hnn : nn = mid + m) (hpp : nn = pp + 1) (hcm : mid < m) (hcs : nn = b + s0) (hcr : r0 = mid) :
    Calls Try.prog 43 #[.slice (some ⟨blk, off, none⟩) d0.size cap, .int .i64 a, .int .i64 m, .int .i64 b, .func (.func g) #[] cb] w fun e w' => e = .returned (.tuple #[]) ∧ ∃ d', SW enc w0 blk off d' w' ∧ Hid (Pmt a b d d' ∧ Stb (ltOf cf) T d' ∧ Srt T a b d') := by
  have CH : Hid (SyC enc cf T g cb blk off d0 w0) := C
  have eg := C.eg
  have mixed := stMixed
  have a3 := stA3
  have z3 := stZ3
  have hst := C.R.hO.store Try.prog
  have hcl0 := C.R.hO.cells
  simp only [Value.cells] at hcl0
  have hsH : Hid (d.size = d0.size) := hs
  have hnH : Hid (b - a ≤ n + 1) := hn
  have hBH : Hid (Bnd a m b mid s0 r0) := hB
  have hppH : Hid (nn = mid + m ∧ nn = pp + 1) := ⟨hnn, hpp⟩
  have hbH : Hid (b ≤ d0.size) := by show _ ≤ _; omega
  have hSH : Hid (Stb (ltOf cf) T d) := hS
  have h1H : Hid (Srt T a m d) := h1
  have h2H : Hid (Srt T m b d) := h2
  have SH : Hid (SW enc w0 blk off d w) := S
  have hszH : Hid (d0.size < 100000) := C.hsz
  have IHH : Hid (SyM enc cf T g cb blk off cap d0 w0 n) := IH
  have hrot : Hid (∀ (p q r : Nat) (wk : World), SW enc w0 blk off d wk → p < q → q < r → r ≤ d0.size → Calls Try.prog 46 #[.slice (some ⟨blk, off, none⟩) d0.size cap, .int .i64 p, .int .i64 q, .int .i64 r, .func (.func g) #[] cb] wk fun e w' => e = .returned (.tuple #[]) ∧ ∃ d', SW enc w0 blk off d' w' ∧ Hid (Ix d d' (rotI p q r))) := by
    intro p q r wk e1 e2 e3 e4
    rw [← hs]
    exact rotR_any enc _ blk off cap p q r d0 d w0 wk C.R hs e1 e2 e3 (by rw [hs]; exact e4) (by rw [hs]; exact C.hsz)
  have hz1 : m < 1000000 ∧ b < 1000000 ∧ a + b < 1000000 ∧ nn < 1000000 := by have h1 := C.hsz; have h2 := hB.mb; have h3 := hB.am; have h4 := hB.hmid; exact ⟨by omega, by omega, by omega, by omega⟩
  have hcm1 : (mid : Int) < (m : Int) := by omega
  have hb0 : (wrap64 ((m : Int) - (a : Int)) == 1) = false := wne1 ha2 hz1.1
  have hb1 : (wrap64 ((b : Int) - (m : Int)) == 1) = false := wne1 hb2 hz1.2.1
  have hmid : wrap64 (IntKind.u64.wrap (wrap64 ((a : Int) + (b : Int))) / 2) = (mid : Int) := mid_w hz1.2.2.1 hB.hmid
  have hwn : wrap64 ((mid : Int) + (m : Int)) = (nn : Int) := wrA hnn hz1.2.2.2
  have hwp : wrap64 ((nn : Int) - 1) = (pp : Int) := wrD hpp hz1.2.2.2
  have hws : wrap64 ((nn : Int) - (b : Int)) = (s0 : Int) := wrS hcs hz1.2.2.2
  have hcrH : Hid (r0 = mid) := hcr
  have hcmH : Hid (mid < m) := hcm
  clear S hs hb hS h1 h2 C IH hn hnn hpp ha2 hb2 hB hz1 hcm hcs hcr
  generalize hN : d0.size = N at *
  have hNH : Hid (d0.size = N) := hN
  clear hN
  go_enter Try.func43, Try.ntmps43
  go_wp2
  try simp only [hmid, hwn, hwp, hws]
  clear hb0 hb1 hmid hwn hwp hws hcm1
  go_loopg [20, 21] (r0 - s0) (fun gz iv jv wr => ∃ (s r : Nat), iv = .int .i64 s ∧ jv = .int .i64 r ∧ r - s ≤ gz ∧ Hid (Cutp T d (mid + m - 1) s0 r0 s r) ∧ Hid (SW enc w0 blk off d wr))
  case atStart => exact ⟨s0, r0, rfl, congrArg (fun (k : Nat) => Value.int .i64 (k : Int)) hcrH.out.symm, Nat.le_refl _, Cutp.start hBH.out.fact.2.1, SH⟩
  case round =>
    clear SH
    obtain ⟨s, r, rfl, rfl, hgz, hC, S1⟩ := hrel
    by_cases hlt : s < r
    · have hlti : (s : Int) < (r : Int) := by omega
      obtain ⟨c, hc⟩ : ∃ c, c = (s + r) / 2 := ⟨_, rfl⟩
      have hcb : s ≤ c ∧ c < r := by omega
      have hF := hBH.out.fact
      have hC0 := hC.out.lo
      have hC1 := hC.out.hi
      have hFc := hF.2.2.2.2.2.2.2 c (by omega) (by omega)
      obtain ⟨q, hq⟩ : ∃ q, q = mid + m - 1 - c := ⟨_, rfl⟩
      rw [← hq] at hFc
      have hbN := hbH.out
      have hszN := hszH.out
      have hzs : s + r < 1000000 := by omega
      have hzq : pp = c + q := by have := hppH.out; omega
      have hzp : pp < 1000000 := by have := hppH.out; omega
      have hc5 : Hid (c ≤ 100000) := by show _ ≤ _; omega
      have hcN : (c : Int) < (N : Int) := by omega
      have hqN : (q : Int) < (N : Int) := by omega
      obtain ⟨l1, l2, l3⟩ := sy_cells CH.out (by rw [hsH.out, hNH.out]) S1.out c q (by rw [hsH.out]; omega) (by rw [hsH.out]; omega)
      have hcH : Hid (s ≤ c ∧ c < r) := hcb
      have hyes : Hid (cf d[q]! d[c]! < 0 → Cutp T d (mid + m - 1) s0 r0 s c) := fun hlt => by
        have ht : T d[q]! d[c]! := hSH.out.yes hFc.2.2 (by rw [hsH.out]; omega) (decide_eq_true hlt)
        rw [hq] at ht
        exact hC.out.up CH.out.hO hBH.out h1H.out h2H.out hcb ht
      have hno : Hid (¬ cf d[q]! d[c]! < 0 → Cutp T d (mid + m - 1) s0 r0 (c + 1) r) := fun hlt => by
        have ht : T d[c]! d[q]! := hSH.out.no CH.out.hO hFc.2.2 (by rw [hsH.out]; omega) (decide_eq_false hlt)
        rw [hq] at ht
        exact hC.out.down CH.out.hO hBH.out h1H.out h2H.out hcb ht
      have hwij : wrap64 (IntKind.u64.wrap (wrap64 ((s : Int) + (r : Int))) / 2) = ((c : Nat) : Int) := mid_w hzs hc
      have hwq' : IntKind.i64.wrap ((pp : Int) - (c : Int)) = (q : Int) := wrS' hzq hzp
      have hwq : wrap64 ((pp : Int) - (c : Int)) = (q : Int) := wrS hzq hzp
      clear hzs hzq hzp hcb hc hlt hF hC0 hC1 hFc hbN hszN hq hC
      generalize d[q]! = x at *
      generalize d[c]! = y at *
      by_cases hv : cf x y < 0
      · have hKH : Hid _ := hyes.out hv
        have hd : decide (cf x y < 0) = true := decide_eq_true hv
        clear hyes hno
        go_wp2_with fail
        go_quiet_grown (first | (go_at_fn g; refine Calls.grown_of (l3 _ _)))
        have S2 : Hid (SW enc w0 blk off d (grow (wr.drewN nq) osq)) := S1.out.grown nq osq
        clear l1 l2 l3 S1
        generalize grow (wr.drewN nq) osq = w2 at S2 ⊢
        clear nq osq hwij hwq hwq'
        go_wp2
        go_roundg (c - s)
        case measure => have := hcH.out; omega
        case rel => exact ⟨s, c, rfl, rfl, Nat.le_refl _, hKH, S2⟩
      · have hKH : Hid _ := hno.out hv
        have hd : decide (cf x y < 0) = false := decide_eq_false hv
        clear hyes hno
        go_wp2_with fail
        go_quiet_grown (first | (go_at_fn g; refine Calls.grown_of (l3 _ _)))
        have S2 : Hid (SW enc w0 blk off d (grow (wr.drewN nq) osq)) := S1.out.grown nq osq
        clear l1 l2 l3 S1
        generalize grow (wr.drewN nq) osq = w2 at S2 ⊢
        clear nq osq hwij hwq hwq'
        go_wp2
        go_roundg (r - (c + 1))
        case measure => have := hcH.out; omega
        case rel => exact ⟨c + 1, r, by first | exact int_wsucc hc5.out | exact int_succ c, rfl, Nat.le_refl _, hKH, S2⟩
    · have hlti : ¬ (s : Int) < (r : Int) := by omega
      have e : s = r := by have := hC.out.mid; omega
      subst e
      clear hlt hgz
      obtain ⟨en, hen⟩ : ∃ en, en = mid + m - s := ⟨_, rfl⟩
      have hF := hBH.out.fact
      have hC0 := hC.out.lo
      have hC1 := hC.out.hi
      have hEN : Hid (m ≤ en ∧ mid ≤ en ∧ en ≤ b ∧ a ≤ s ∧ s ≤ m ∧ s ≤ mid ∧ a < mid ∧ mid < b ∧ en = mid + m - s) := by
        have hcas := hBH.out.cas
        have := hBH.out.am
        have := hBH.out.mb
        have := hBH.out.hmid
        rcases hcas with ⟨e1, e2, e3⟩ | ⟨e1, e2, e3⟩
        · exact ⟨by omega, by omega, by omega, by omega, by omega, by omega, by omega, by omega, hen⟩
        · exact ⟨by omega, by omega, by omega, by omega, by omega, by omega, by omega, by omega, hen⟩
      have hze : nn = s + en := by have := hppH.out; have := hEN.out; omega
      have hzn : nn < 1000000 := by have := hppH.out; have := hszH.out; have := hbH.out; have := hEN.out; have := hBH.out.mb; omega
      have hhalf : Hid (∀ d1, Ix d d1 (rotI s m en) → Half (ltOf cf) T a s mid en b d1) := fun d1 hx => by
        rw [hen]
        exact half_of CH.out.hO hSH.out (by rw [hsH.out]; exact hbH.out) hBH.out hC.out h1H.out h2H.out (by rw [← hen]; exact hx)
      have hix : Hid (∀ d1, Ix d d1 (rotI s m en) → Pmt a b d d1) := fun d1 hx => (Pmt.rot hx hEN.out.2.2.2.2.1 hEN.out.1).wide hEN.out.2.2.2.1 hEN.out.2.2.1
      have hzeH : Hid (nn = s + en) := hze
      have hznH : Hid (nn < 1000000) := hzn
      clear hF hC0 hC1 hen hC hze hzn
      have ham : Hid (a < mid) := hEN.out.2.2.2.2.2.2.1
      have hmb : Hid (mid ≤ b) := Nat.le_of_lt hEN.out.2.2.2.2.2.2.2.1
      have hmN : Hid (mid ≤ N) := Nat.le_trans hmb.out hbH.out
      have hl1 : Hid (mid - a ≤ n) := by have h1 := hnH.out; have h2 := hEN.out; show _ ≤ _; omega
      have hl2 : Hid (b - mid ≤ n) := by have h1 := hnH.out; have h2 := hEN.out; show _ ≤ _; omega
      obtain ⟨g1, g2, g3, g4, g5, g6, g7, g8, g9⟩ := hEN.out
      by_cases q1 : s < m
      · by_cases q2 : m < en
        · have hr1 : Hid (s < m ∧ m < en) := ⟨q1, q2⟩
          by_cases q3 : a < s
          · by_cases q4 : en < b
            · have x1z : (s : Int) < (m : Int) := by omega
              have x1d : decide ((s : Int) < (m : Int)) = true := decide_eq_true x1z
              have x2z : (m : Int) < (en : Int) := by omega
              have x2d : decide ((m : Int) < (en : Int)) = true := decide_eq_true x2z
              have x3z : (a : Int) < (s : Int) := by omega
              have x3d : decide ((a : Int) < (s : Int)) = true := decide_eq_true x3z
              have x4z : (s : Int) < (mid : Int) := by omega
              have x4d : decide ((s : Int) < (mid : Int)) = true := decide_eq_true x4z
              have x5z : (mid : Int) < (en : Int) := by omega
              have x5d : decide ((mid : Int) < (en : Int)) = true := decide_eq_true x5z
              have x6z : (en : Int) < (b : Int) := by omega
              have x6d : decide ((en : Int) < (b : Int)) = true := decide_eq_true x6z
              have hr2 : Hid (a < s ∧ s < mid) := ⟨q3, by omega⟩
              have hr3 : Hid (mid < en ∧ en < b) := ⟨by omega, q4⟩
              clear g1 g2 g3 g4 g5 g6 g7 g8 g9 q1
              clear q2 q3 q4
              have hwe : wrap64 ((nn : Int) - (s : Int)) = (en : Int) := wrS hzeH.out hznH.out
              go_wp2_with (first
                | (go_at_call 46; have hcall := hrot.out s m en _ S1.out hr1.out.1 hr1.out.2 (Nat.le_trans hEN.out.2.2.1 hbH.out); refine hcall.mono ?_; clear hcall; rintro e w5 ⟨rfl, d5, S5, X5⟩; have S5H : Hid (SW enc w0 blk off d5 w5) := S5; clear S5 S1; have hf : Hid (Half (ltOf cf) T a s mid en b d5) := hhalf.out d5 X5.out; have hp : Hid (Pmt a b d d5) := hix.out d5 X5.out)
                | (go_at_call 43; have hcall := IHH.out a s mid d5 _ hl1.out (by rw [hp.out.size, hsH.out, hNH.out]) S5H.out hr2.out.1 hr2.out.2 (by rw [hp.out.size, hsH.out]; exact hmN.out) hf.out.stb hf.out.l1 hf.out.l2; rw [hNH.out] at hcall; refine hcall.mono ?_; clear hcall; rintro e w7 ⟨rfl, d7, S7, X7⟩; have S7H : Hid (SW enc w0 blk off d7 w7) := S7; clear S7 S5H; have hb7 : Hid _ := half_left CH.out.hO hf.out ⟨hEN.out.2.1, hEN.out.2.2.1⟩ (by rw [hp.out.size, hsH.out]; exact hbH.out) X7.out.1 X7.out.2.2 X7.out.2.1; have hp7 : Hid (Pmt a b d d7) := hp.out.trans (X7.out.1.wide (Nat.le_refl _) hmb.out))
                | (go_at_call 43; have hcall := IHH.out mid en b d7 _ hl2.out (by rw [hp7.out.size, hsH.out, hNH.out]) S7H.out hr3.out.1 hr3.out.2 (by rw [hp7.out.size, hsH.out]; exact hbH.out) hb7.out.1 hb7.out.2.2.1 hb7.out.2.2.2.1; rw [hNH.out] at hcall; refine hcall.mono ?_; clear hcall; rintro e w9 ⟨rfl, d9, S9, X9⟩; have S9H : Hid (SW enc w0 blk off d9 w9) := S9; clear S9)
                | fail)
              (try simp only [Exit.inBlock, Exit.then]); first | refine bodyPost_end (results_none rfl _ _ _) rfl ?_ | refine bodyPost_ret (results_none rfl _ _ _) rfl ?_
              exact ⟨rfl, d9, S9H.out, hp7.out.trans (X9.out.1.wide (Nat.le_of_lt ham.out) (Nat.le_refl _)), X9.out.2.1, half_right hb7.out.2.1 hb7.out.2.2.2.2 X9.out.1 X9.out.2.2⟩
            · have x1z : (s : Int) < (m : Int) := by omega
              have x1d : decide ((s : Int) < (m : Int)) = true := decide_eq_true x1z
              have x2z : (m : Int) < (en : Int) := by omega
              have x2d : decide ((m : Int) < (en : Int)) = true := decide_eq_true x2z
              have x3z : (a : Int) < (s : Int) := by omega
              have x3d : decide ((a : Int) < (s : Int)) = true := decide_eq_true x3z
              have x4z : (s : Int) < (mid : Int) := by omega
              have x4d : decide ((s : Int) < (mid : Int)) = true := decide_eq_true x4z
              have x5z : (mid : Int) < (en : Int) := by omega
              have x5d : decide ((mid : Int) < (en : Int)) = true := decide_eq_true x5z
              have x6z : ¬ (en : Int) < (b : Int) := by omega
              have x6d : decide ((en : Int) < (b : Int)) = false := decide_eq_false x6z
              have hr2 : Hid (a < s ∧ s < mid) := ⟨q3, by omega⟩
              have hr3 : Hid (en = mid ∨ en = b) := Or.inr (by omega)
              clear g1 g2 g3 g4 g5 g6 g7 g8 g9 q1
              clear q2 q3 q4
              have hwe : wrap64 ((nn : Int) - (s : Int)) = (en : Int) := wrS hzeH.out hznH.out
              go_wp2_with (first
                | (go_at_call 46; have hcall := hrot.out s m en _ S1.out hr1.out.1 hr1.out.2 (Nat.le_trans hEN.out.2.2.1 hbH.out); refine hcall.mono ?_; clear hcall; rintro e w5 ⟨rfl, d5, S5, X5⟩; have S5H : Hid (SW enc w0 blk off d5 w5) := S5; clear S5 S1; have hf : Hid (Half (ltOf cf) T a s mid en b d5) := hhalf.out d5 X5.out; have hp : Hid (Pmt a b d d5) := hix.out d5 X5.out)
                | (go_at_call 43; have hcall := IHH.out a s mid d5 _ hl1.out (by rw [hp.out.size, hsH.out, hNH.out]) S5H.out hr2.out.1 hr2.out.2 (by rw [hp.out.size, hsH.out]; exact hmN.out) hf.out.stb hf.out.l1 hf.out.l2; rw [hNH.out] at hcall; refine hcall.mono ?_; clear hcall; rintro e w7 ⟨rfl, d7, S7, X7⟩; have S7H : Hid (SW enc w0 blk off d7 w7) := S7; clear S7 S5H; have hb7 : Hid _ := half_left CH.out.hO hf.out ⟨hEN.out.2.1, hEN.out.2.2.1⟩ (by rw [hp.out.size, hsH.out]; exact hbH.out) X7.out.1 X7.out.2.2 X7.out.2.1; have hp7 : Hid (Pmt a b d d7) := hp.out.trans (X7.out.1.wide (Nat.le_refl _) hmb.out))
                | fail)
              (try simp only [Exit.inBlock, Exit.then]); first | refine bodyPost_end (results_none rfl _ _ _) rfl ?_ | refine bodyPost_ret (results_none rfl _ _ _) rfl ?_
              have hsrt : Srt T mid b d7 := by
                rcases hr3.out with e | e
                · rw [← e]; exact hb7.out.2.2.2.1
                · rw [← e]; exact hb7.out.2.2.1
              exact ⟨rfl, d7, S7H.out, hp7.out, hb7.out.1, half_right hb7.out.2.1 hb7.out.2.2.2.2 (Pmt.refl _ _ _) hsrt⟩
          · by_cases q4 : en < b
            · have x1z : (s : Int) < (m : Int) := by omega
              have x1d : decide ((s : Int) < (m : Int)) = true := decide_eq_true x1z
              have x2z : (m : Int) < (en : Int) := by omega
              have x2d : decide ((m : Int) < (en : Int)) = true := decide_eq_true x2z
              have x3z : ¬ (a : Int) < (s : Int) := by omega
              have x3d : decide ((a : Int) < (s : Int)) = false := decide_eq_false x3z
              have x5z : (mid : Int) < (en : Int) := by omega
              have x5d : decide ((mid : Int) < (en : Int)) = true := decide_eq_true x5z
              have x6z : (en : Int) < (b : Int) := by omega
              have x6d : decide ((en : Int) < (b : Int)) = true := decide_eq_true x6z
              have hr2 : Hid (s = a ∨ s = mid) := Or.inl (by omega)
              have hr3 : Hid (mid < en ∧ en < b) := ⟨by omega, q4⟩
              clear g1 g2 g3 g4 g5 g6 g7 g8 g9 q1
              clear q2 q3 q4
              have hwe : wrap64 ((nn : Int) - (s : Int)) = (en : Int) := wrS hzeH.out hznH.out
              go_wp2_with (first
                | (go_at_call 46; have hcall := hrot.out s m en _ S1.out hr1.out.1 hr1.out.2 (Nat.le_trans hEN.out.2.2.1 hbH.out); refine hcall.mono ?_; clear hcall; rintro e w5 ⟨rfl, d5, S5, X5⟩; have S5H : Hid (SW enc w0 blk off d5 w5) := S5; clear S5 S1; have hf : Hid (Half (ltOf cf) T a s mid en b d5) := hhalf.out d5 X5.out; have hp : Hid (Pmt a b d d5) := hix.out d5 X5.out)
                | (go_at_call 43; have hb7 : Hid _ := half_left CH.out.hO hf.out ⟨hEN.out.2.1, hEN.out.2.2.1⟩ (by rw [hp.out.size, hsH.out]; exact hbH.out) (Pmt.refl _ _ _) (by rcases hr2.out with e | e; (rw [← e]; exact hf.out.l2); (rw [← e]; exact hf.out.l1)) hf.out.stb; have hp7 : Hid (Pmt a b d d5) := hp.out; have hcall := IHH.out mid en b d5 _ hl2.out (by rw [hp7.out.size, hsH.out, hNH.out]) S5H.out hr3.out.1 hr3.out.2 (by rw [hp7.out.size, hsH.out]; exact hbH.out) hb7.out.1 hb7.out.2.2.1 hb7.out.2.2.2.1; rw [hNH.out] at hcall; refine hcall.mono ?_; clear hcall; rintro e w9 ⟨rfl, d9, S9, X9⟩; have S9H : Hid (SW enc w0 blk off d9 w9) := S9; clear S9)
                | fail)
              (try simp only [Exit.inBlock, Exit.then]); first | refine bodyPost_end (results_none rfl _ _ _) rfl ?_ | refine bodyPost_ret (results_none rfl _ _ _) rfl ?_
              exact ⟨rfl, d9, S9H.out, hp7.out.trans (X9.out.1.wide (Nat.le_of_lt ham.out) (Nat.le_refl _)), X9.out.2.1, half_right hb7.out.2.1 hb7.out.2.2.2.2 X9.out.1 X9.out.2.2⟩
            · have x1z : (s : Int) < (m : Int) := by omega
              have x1d : decide ((s : Int) < (m : Int)) = true := decide_eq_true x1z
              have x2z : (m : Int) < (en : Int) := by omega
              have x2d : decide ((m : Int) < (en : Int)) = true := decide_eq_true x2z
              have x3z : ¬ (a : Int) < (s : Int) := by omega
              have x3d : decide ((a : Int) < (s : Int)) = false := decide_eq_false x3z
              have x5z : (mid : Int) < (en : Int) := by omega
              have x5d : decide ((mid : Int) < (en : Int)) = true := decide_eq_true x5z
              have x6z : ¬ (en : Int) < (b : Int) := by omega
              have x6d : decide ((en : Int) < (b : Int)) = false := decide_eq_false x6z
              have hr2 : Hid (s = a ∨ s = mid) := Or.inl (by omega)
              have hr3 : Hid (en = mid ∨ en = b) := Or.inr (by omega)
              clear g1 g2 g3 g4 g5 g6 g7 g8 g9 q1
              clear q2 q3 q4
              have hwe : wrap64 ((nn : Int) - (s : Int)) = (en : Int) := wrS hzeH.out hznH.out
              go_wp2_with (first
                | (go_at_call 46; have hcall := hrot.out s m en _ S1.out hr1.out.1 hr1.out.2 (Nat.le_trans hEN.out.2.2.1 hbH.out); refine hcall.mono ?_; clear hcall; rintro e w5 ⟨rfl, d5, S5, X5⟩; have S5H : Hid (SW enc w0 blk off d5 w5) := S5; clear S5 S1; have hf : Hid (Half (ltOf cf) T a s mid en b d5) := hhalf.out d5 X5.out; have hp : Hid (Pmt a b d d5) := hix.out d5 X5.out)
                | fail)
              (try simp only [Exit.inBlock, Exit.then]); first | refine bodyPost_end (results_none rfl _ _ _) rfl ?_ | refine bodyPost_ret (results_none rfl _ _ _) rfl ?_
              have hb7 : Hid _ := half_left CH.out.hO hf.out ⟨hEN.out.2.1, hEN.out.2.2.1⟩ (by rw [hp.out.size, hsH.out]; exact hbH.out) (Pmt.refl _ _ _) (by rcases hr2.out with e | e; (rw [← e]; exact hf.out.l2); (rw [← e]; exact hf.out.l1)) hf.out.stb; have hp7 : Hid (Pmt a b d d5) := hp.out
              have hsrt : Srt T mid b d5 := by
                rcases hr3.out with e | e
                · rw [← e]; exact hb7.out.2.2.2.1
                · rw [← e]; exact hb7.out.2.2.1
              exact ⟨rfl, d5, S5H.out, hp7.out, hb7.out.1, half_right hb7.out.2.1 hb7.out.2.2.2.2 (Pmt.refl _ _ _) hsrt⟩
        · have q9 := hBH.out.mb
          have x1z : (s : Int) < (m : Int) := by omega
          have x1d : decide ((s : Int) < (m : Int)) = true := decide_eq_true x1z
          have x2z : ¬ (m : Int) < (en : Int) := by omega
          have x2d : decide ((m : Int) < (en : Int)) = false := decide_eq_false x2z
          have x3z : (a : Int) < (s : Int) := by omega
          have x3d : decide ((a : Int) < (s : Int)) = true := decide_eq_true x3z
          have x4z : ¬ (s : Int) < (mid : Int) := by omega
          have x4d : decide ((s : Int) < (mid : Int)) = false := decide_eq_false x4z
          have x5z : (mid : Int) < (en : Int) := by omega
          have x5d : decide ((mid : Int) < (en : Int)) = true := decide_eq_true x5z
          have x6z : (en : Int) < (b : Int) := by omega
          have x6d : decide ((en : Int) < (b : Int)) = true := decide_eq_true x6z
          have hr1 : Hid (¬ (s < m ∧ m < en)) := fun h => by omega
          have hr2 : Hid (s = a ∨ s = mid) := Or.inr (by omega)
          have hr3 : Hid (mid < en ∧ en < b) := ⟨by omega, by have := hBH.out.mb; omega⟩
          clear g1 g2 g3 g4 g5 g6 g7 g8 g9 q1
          clear q2 q9
          have hwe : wrap64 ((nn : Int) - (s : Int)) = (en : Int) := wrS hzeH.out hznH.out
          have X5 : Hid (Ix d d (rotI s m en)) := rot_id ⟨hEN.out.2.2.2.2.1, hEN.out.1⟩ hr1.out
          have hf : Hid (Half (ltOf cf) T a s mid en b d) := hhalf.out d X5.out
          have hp : Hid (Pmt a b d d) := hix.out d X5.out
          go_wp2_with (first
            | (go_at_call 43; have hb7 : Hid _ := half_left CH.out.hO hf.out ⟨hEN.out.2.1, hEN.out.2.2.1⟩ (by rw [hp.out.size, hsH.out]; exact hbH.out) (Pmt.refl _ _ _) (by rcases hr2.out with e | e; (rw [← e]; exact hf.out.l2); (rw [← e]; exact hf.out.l1)) hf.out.stb; have hp7 : Hid (Pmt a b d d) := hp.out; have hcall := IHH.out mid en b d _ hl2.out (by rw [hp7.out.size, hsH.out, hNH.out]) S1.out hr3.out.1 hr3.out.2 (by rw [hp7.out.size, hsH.out]; exact hbH.out) hb7.out.1 hb7.out.2.2.1 hb7.out.2.2.2.1; rw [hNH.out] at hcall; refine hcall.mono ?_; clear hcall; rintro e w9 ⟨rfl, d9, S9, X9⟩; have S9H : Hid (SW enc w0 blk off d9 w9) := S9; clear S9)
            | fail)
          (try simp only [Exit.inBlock, Exit.then]); first | refine bodyPost_end (results_none rfl _ _ _) rfl ?_ | refine bodyPost_ret (results_none rfl _ _ _) rfl ?_
          exact ⟨rfl, d9, S9H.out, hp7.out.trans (X9.out.1.wide (Nat.le_of_lt ham.out) (Nat.le_refl _)), X9.out.2.1, half_right hb7.out.2.1 hb7.out.2.2.2.2 X9.out.1 X9.out.2.2⟩
      · exact absurd hcmH.out (by omega)

end Go.Proofs.Ytfnkboegbclnaaa
