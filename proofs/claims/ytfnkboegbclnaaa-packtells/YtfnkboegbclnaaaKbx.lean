/- Package pack: Boxes: the map of sums by boxes. -/
import Derived.Test.YtfnkboegbclnaaaKhm
import Derived.Maps.OwnSet
import Derived.Maps.Own
import Derived.Carry
import Derived.WalkArith
namespace Go.Proofs.Ytfnkboegbclnaaa
open Go.RowKit Go.Maps
set_option linter.unusedSectionVars false
set_option linter.unusedVariables false

def kyI (i : Int) : Lit := .int .i64 i
theorem kyI_inj {x y : Int} (h : kyI x = kyI y) : x = y := by simpa [kyI] using h
theorem kyI_key (i : Int) : WideAt.IsKeyLit (kyI i) := trivial
def vlI (v : Int) : DataW Unit := .lit (.int .i64 v)
/-- The map D holds the keys K, and at each what S says; at all others nothing. -/
structure Rm (D : DataW Unit) (K : List Int) (S : Int → Int) : Prop where
  tidy : Tidy D
  has : ∀ kl, Maps.has D kl = true ↔ ∃ b ∈ K, kl = kyI b
  at0 : ∀ b, D.atKey (kyI b) (vlI 0) = vlI (S b)
  size : Maps.size D = K.length
theorem Rm.empty : Rm (.map []) [] (fun _ => 0) := ⟨tidy_empty, fun kl => by simp [Maps.has], fun b => rfl, rfl⟩
theorem Rm.put {D : DataW Unit} {K : List Int} {S : Int → Int} (h : Rm D K S) (b v : Int) : Rm (D.put (kyI b) (vlI v)) (if b ∈ K then K else K ++ [b]) (fun x => if x = b then v else S x) := by
  have hb : Maps.has D (kyI b) = true ↔ b ∈ K := by
    rw [h.has]
    exact ⟨fun ⟨x, hx, e⟩ => by rw [kyI_inj e]; exact hx, fun hx => ⟨b, hx, rfl⟩⟩
  refine ⟨h.tidy.put (kyI_key _) _, fun kl => ?_, fun x => ?_, ?_⟩
  · by_cases e : kl = kyI b
    · subst e
      rw [has_put_same h.tidy.isMap (kyI_key _)]
      by_cases hk : b ∈ K
      · rw [if_pos hk]; simp; exact ⟨b, hk, rfl⟩
      · rw [if_neg hk]; simp
    · rw [has_put_other e, h.has]
      by_cases hk : b ∈ K
      · rw [if_pos hk]
      · rw [if_neg hk]
        constructor
        · rintro ⟨x, hx, rfl⟩; exact ⟨x, List.mem_append_left _ hx, rfl⟩
        · rintro ⟨x, hx, rfl⟩
          rcases List.mem_append.1 hx with hx | hx
          · exact ⟨x, hx, rfl⟩
          · rw [List.mem_singleton] at hx
            exact absurd (by rw [hx]) e
  · show _ = vlI (if x = b then v else S x)
    by_cases e : x = b
    · subst e
      rw [if_pos rfl]
      exact atKey_put_same h.tidy.isMap (kyI_key _) _ _
    · rw [if_neg e, atKey_put_other (fun e2 => e (kyI_inj e2))]
      exact h.at0 x
  · rw [size_put h.tidy, h.size]
    by_cases hk : b ∈ K
    · rw [hb.2 hk, if_pos hk]; simp
    · have : Maps.has D (kyI b) = false := by
        cases e : Maps.has D (kyI b)
        · rfl
        · exact absurd (hb.1 e) hk
      rw [this, if_neg hk]; simp

/-- The sums of the first j things by their boxes; the boxes that come. -/
def bxS (l B : List Int) : Nat → Int → Int
  | 0, _ => 0
  | j + 1, b => if b = nm B j then bxS l B j (nm B j) + nm l j else bxS l B j b
def bxK (B : List Int) : Nat → List Int
  | 0 => []
  | j + 1 => if nm B j ∈ bxK B j then bxK B j else bxK B j ++ [nm B j]
def bxO (l B : List Int) (size : Int) : Nat → Bool
  | 0 => true
  | j + 1 => bxO l B size j && (decide (0 ≤ nm B j) && decide (bxS l B (j + 1) (nm B j) ≤ size))
theorem bxS_bounds {l B : List Int} {size : Int} (hl : ∀ x ∈ l, 1 ≤ x ∧ x ≤ size) (hs : 1 ≤ size) : ∀ j, j ≤ l.length → bxO l B size j = true → ∀ b, 0 ≤ bxS l B j b ∧ bxS l B j b ≤ size := by
  intro j
  induction j with
  | zero => intro _ _ b; exact ⟨Int.le_refl _, by show (0 : Int) ≤ size; omega⟩
  | succ j ih =>
    intro hj hO b
    rw [bxO, Bool.and_eq_true, Bool.and_eq_true] at hO
    have h1 := ih (by omega) hO.1
    have h2 := of_decide_eq_true hO.2.2
    rw [bxS, if_pos rfl] at h2
    rw [bxS]
    by_cases e : b = nm B j
    · rw [if_pos e]
      have := (h1 (nm B j)).1
      have := hl _ (nm_mem (show j < l.length by omega))
      omega
    · rw [if_neg e]; exact h1 b
theorem bxO_mono {l B : List Int} {size : Int} {j k : Nat} (h : bxO l B size j = false) (hk : j ≤ k) : bxO l B size k = false := by
  induction k with
  | zero => have : j = 0 := by omega
            rw [← this]; exact h
  | succ k ih =>
    by_cases e : j = k + 1
    · rw [← e]; exact h
    · rw [bxO, ih (by omega), Bool.false_and]
theorem bxK_len (B : List Int) : ∀ j, (bxK B j).length ≤ j := by
  intro j
  induction j with
  | zero => exact Nat.le_refl _
  | succ j ih =>
    rw [bxK]
    by_cases e : nm B j ∈ bxK B j
    · rw [if_pos e]; omega
    · rw [if_neg e, List.length_append, List.length_singleton]; omega
/-- What Boxes tells. -/
def bxR (l B : List Int) (size : Int) : Int × Int := if kc l size ≠ 0 then (0, kc l size) else if B.length ≠ l.length then (0, 1) else if bxO l B size l.length = true then ((bxK B l.length).length, 0) else (0, 1)

def plE : Value → Option (DataW Unit × List MemPlace)
  | .int .i64 b => some (.lit (.int .i64 b), [])
  | _ => none
theorem plE_inv {v : Value} {b : Int} {ps : List MemPlace} (h : plE v = some (.lit (.int .i64 b), ps)) : v = .int .i64 b := by
  unfold plE at h
  split at h
  · simp at h; rw [h.1]
  · cases h
theorem int64U : Try.prog.underlying 2 = some (.int .i64) := Try.underlying2
theorem lawKI : Keyed Try.prog 3 := int_keyed Try.underlying3
theorem zero64 (w : World) : (zeroValue 2).run Try.prog w = .ok (.int .i64 0) w := by kernel_rfl
theorem wf_s {x : Int} (h : -1000000000000000000 ≤ x ∧ x ≤ 1000000000000000000) : (Lit.int .i64 x).wf = true := by
  exact Go.WalkArith.wf_i64 (by omega)
theorem rm_look {w : World} {wm n : Nat} {D : DataW Unit} {K : List Int} {S : Int → Int} (ho : w.ownsMap Try.prog 3 plE wm n D) (hr : Rm D K S) {b : Int} (hb : (Lit.int .i64 b).wf = true) : (Instr.lookup 49 (.map (some wm)) (.int .i64 b) false).run Try.prog w = .ok (.int .i64 (S b)) w := by
  obtain ⟨v, ps, hrun, hv⟩ := ho.lookup lawKI Try.underlying49 (zero64 w) (zd := vlI 0) (zp := []) rfl (keyOf_int_mk Try.underlying3 hb)
  rw [hrun]
  have h2 : D.atKey (Lit.int .i64 b) (vlI 0) = vlI (S b) := hr.at0 b
  rw [h2] at hv
  rw [plE_inv hv]

/-- An entry that is put, as an operation. -/
theorem step_put {w : World} {o : Oper} {a : Act} {Q : Exit → Act → World → Prop} {K : Act → World → Prop} (m x v : Operand) (hop : o.op = Op.mapUpdate 49 m x v) {wm n : Nat} {D : DataW Unit} {b s : Int}
    (hm : a.eval m = .map (some wm)) (hx : a.eval x = .int .i64 b) (hv : a.eval v = .int .i64 s) (hown : w.ownsMap Try.prog 3 plE wm n D) (hn : n < maxLen) (hb : (Lit.int .i64 b).wf = true)
    (h : ∀ w', w'.ownsMap Try.prog 3 plE wm (n + 1) (D.put (kyI b) (vlI s)) → w.mapTurned w' wm → K (a.put o.dst undef) w') : o.wp Try.prog a w K Q := by
  obtain ⟨w', hrun, r1, r2⟩ := hown.store lawKI Try.underlying49 hn (keyOf_int_mk Try.underlying3 hb) (show plE (.int .i64 s) = some (vlI s, []) from rfl)
  unfold Oper.wp
  simp [execOp, hop, hm, hx, hv, hrun, Result.andThen]
  exact h w' r1 r2

set_option maxHeartbeats 2000000 in
set_option maxRecDepth 100000 in
theorem Boxes_any {w : World} {q qb : Option Addr} {l B : List Int} {c cb : Nat} (size : Int) (h : Nums w q l) (hB : Nums w qb B) (hBw : ∀ x ∈ B, (Lit.int .i64 x).wf = true) :
    Calls Try.prog 11 #[.slice q l.length c, .int .i64 size, .slice qb B.length cb] w fun e w' => e = .returned (.tuple #[.int .i64 (bxR l B size).1, .int .i64 (bxR l B size).2]) ∧ Below w.heap.size w w' := by
  have hc := Check_any (c := c) size h
  by_cases hk : kc l size = 0
  · obtain ⟨k1, k2, k3, k4⟩ := kc_ok hk
    rw [hk] at hc
    by_cases hn : B.length = l.length
    · have hres : Hid (bxR l B size = if bxO l B size l.length = true then (((bxK B l.length).length : Int), 0) else (0, 1)) := by
        unfold bxR; rw [if_neg (by omega), if_neg (by omega)]; rfl
      obtain ⟨n, hnn⟩ : ∃ n, n = l.length := ⟨_, rfl⟩
      have hnz : ((B.length : Int) != (l.length : Int)) = false := by rw [hn]; simp
      have hlH : Hid (∀ w1, Below w.heap.size w w1 → Nums w1 q l) := fun w1 hb => h.below hb (Nat.le_refl _)
      have hBH : Hid (∀ w1, Below w.heap.size w w1 → Nums w1 qb B) := fun w1 hb => hB.below hb (Nat.le_refl _)
      have hwH : Hid (∀ x ∈ B, (Lit.int .i64 x).wf = true) := hBw
      have hnH : Hid (n = l.length ∧ n ≤ 100 ∧ B.length = n) := ⟨hnn, by omega, by omega⟩
      have hbd : Hid (∀ j, j ≤ n → bxO l B size j = true → ∀ b, 0 ≤ bxS l B j b ∧ bxS l B j b ≤ size) := fun j hj => bxS_bounds k4 k2 j (by omega)
      have hbad : Hid (∀ j, j ≤ n → bxO l B size j = false → bxO l B size n = false) := fun j hj he => bxO_mono he hj
      have hszH : Hid (1 ≤ size ∧ size ≤ 1099511627776) := ⟨k2, k3⟩
      have hlx : Hid (∀ j, j < n → 1 ≤ nm l j ∧ nm l j ≤ size) := fun j hj => k4 _ (nm_mem (by omega))
      rw [hn, ← hnn] at hnz
      rw [hn]
      rw [← hnn] at hc hres ⊢
      clear h hB hBw hk k1 k2 k3 k4 hn hnn
      have hmm := @run_makeMap Try.prog
      go_enter Try.func11, Try.ntmps11
      go_wp2_with (first
        | (go_at_call 13; refine hc.mono ?_; rintro e w2 ⟨rfl, hb2⟩; clear hc)
        | fail)
      have hw2 := hb2.size
      have hm0 : (w2.alloc (.map #[] 0)).ownsMap Try.prog 3 plE w2.heap.size 0 (.map []) := World.ownsMap_made w2 Try.prog 3 plE
      have hB3 : Below w.heap.size w (w2.alloc (.map #[] 0)) := hb2.alloc hw2 _
      clear hmm hb2
      generalize w2.alloc (.map #[] 0) = w3 at *
      obtain ⟨wm, hwm⟩ : ∃ wm, wm = w2.heap.size := ⟨_, rfl⟩
      rw [← hwm] at hm0 hw2 ⊢
      have hwmH : Hid (w.heap.size ≤ wm) := hw2
      clear hwm hw2
      go_loopw [26] (fun iv wr => ∃ (j nD : Nat) (D : DataW Unit), iv = .int .i64 j ∧ j ≤ n ∧ Hid (bxO l B size j = true) ∧ wr.ownsMap Try.prog 3 plE wm nD D ∧ nD ≤ j ∧ Rm D (bxK B j) (bxS l B j) ∧ Below w.heap.size w wr)
        (fun iv _ => n - (intOf iv).toNat)
      case atStart => exact ⟨0, 0, .map [], rfl, Nat.zero_le _, rfl, hm0, Nat.le_refl _, Rm.empty, hB3⟩
      case round =>
        clear hm0 hB3
        obtain ⟨j, nD, D, rfl, hjn, hO, hown, hnD, hR, hbl⟩ := hrel
        by_cases hj : j < n
        · have hji : (j : Int) < (n : Int) := by omega
          have hjH : Hid (j < n) := hj
          have hj2 : Hid (j ≤ 100000) := by have := hnH.out; show _ ≤ _; omega
          obtain ⟨gl, ol, rfl, hAl⟩ := (hlH.out wr hbl).resolve_left (by have := hnH.out; omega)
          obtain ⟨gB, oB, rfl, hAB⟩ := (hBH.out wr hbl).resolve_left (by have := hnH.out; omega)
          have zl := hAl.c j (by have := hnH.out; omega)
          have zB := hAB.c j (by have := hnH.out; omega)
          have hglH : Hid (gl < w.heap.size) := by
            rcases hlH.out w (Below.refl _ _) with e | ⟨b, o, e, hA⟩
            · have := hnH.out; omega
            · cases e; exact hA.lt
          have hbw := hwH.out _ (nm_mem (show j < B.length by have := hnH.out; omega))
          have hbd1 := hbd.out j hjn hO.out
          have hlx1 := hlx.out j hj
          have hRH : Hid (Rm D (bxK B j) (bxS l B j)) := hR
          have hblH : Hid (Below w.heap.size w wr) := hbl
          have hownH : Hid (wr.ownsMap Try.prog 3 plE wm nD D) := hown
          have hnm : Hid (nD < maxLen) := by show _ < _; unfold maxLen; have := hnH.out; omega
          have hsS : Hid (∀ b, bxS l B (j + 1) b = if b = nm B j then bxS l B j (nm B j) + nm l j else bxS l B j b) := fun b => rfl
          have hsK : Hid (bxK B (j + 1) = if nm B j ∈ bxK B j then bxK B j else bxK B j ++ [nm B j]) := rfl
          have hsO : Hid (bxO l B size (j + 1) = (decide (0 ≤ nm B j) && decide (bxS l B j (nm B j) + nm l j ≤ size))) := by
            show _ = _
            rw [bxO, hO.out, Bool.true_and, bxS, if_pos rfl]
          have hlk0 := rm_look hown hR hbw
          have hS0 := hbd1 (nm B j)
          have hbwH : Hid _ := hbw
          clear hAl hAB hbw hbd1 hown hR hbl
          generalize nm l j = x at *
          generalize nm B j = b at *
          obtain ⟨S0, hS0e⟩ : ∃ S0, S0 = bxS l B j b := ⟨_, rfl⟩
          rw [← hS0e] at hlk0 hS0 hsO
          have hS0H : Hid (S0 = bxS l B j b) := hS0e
          have hwx : Hid (wrap64 (S0 + x) = S0 + x) := by show _ = _; have := hszH.out; unfold wrap64; omega
          have hwx8 : Hid (IntKind.i64.wrap (S0 + x) = S0 + x) := by show _ = _; rw [IntKind.wrap_i64]; have := hszH.out; omega
          have hwv : Hid ((Lit.int .i64 (S0 + x)).wf = true) := wf_s (by have := hszH.out; omega)
          have hnDH : Hid (nD ≤ j) := hnD
          clear hS0e hS0 hlx1 hj hnD
          go_wp2_with fail
          have hcq : wr.drew.cell? ⟨gl, ol + j, none⟩ = some (.int .i64 x) ∧ (Instr.lookup 49 (.map (some wm)) (.int .i64 b) false).run Try.prog wr.drew = .ok (.int .i64 S0) wr.drew := ⟨zl, by rw [hS0H.out]; exact rm_look (w := wr.drew) hownH.out hRH.out hbwH.out⟩
          have hownd : Hid (wr.drew.ownsMap Try.prog 3 plE wm nD D) := hownH.out
          have hbld : Hid (Below w.heap.size w wr.drew) := hblH.out.drew
          clear zl zB hlk0 hownH hblH
          refine Tkc.region_anyC (C := fun w' => w'.cell? ⟨gl, ol + j, none⟩ = some (.int .i64 x) ∧ (Instr.lookup 49 (.map (some wm)) (.int .i64 b) false).run Try.prog w' = .ok (.int .i64 S0) w') (s := 8) (by kernel_rfl) ?_
          generalize wr.drew = wd at *
          refine Tkc.takeC (i := 0) (v := .map (some wm)) rfl (by kernel_rfl) (by kernel_rfl) (by kernel_rfl) (fun _ _ _ h => h) (by decide) (by kernel_rfl) (by kernel_rfl) hcq ⟨by kernel_rfl, fun w hw => by have hcl : w.cell? ⟨gl, ol + j, none⟩ = some (.int .i64 x) := hw.1; have hlk : (Instr.lookup 49 (.map (some wm)) (.int .i64 b) false).run Try.prog w = .ok (.int .i64 S0) w := hw.2; have hw9 := hwx.out; have hw8 := hwx8.out; have hji9 := hji; go_simp⟩ ?_
          go_frame
          refine Tkc.takeC (i := 1) (v := .int .i64 b) rfl (by kernel_rfl) (by kernel_rfl) (by kernel_rfl) (fun _ _ _ h => h) (by decide) (by kernel_rfl) (by kernel_rfl) hcq ⟨by kernel_rfl, fun w hw => by have hcl : w.cell? ⟨gl, ol + j, none⟩ = some (.int .i64 x) := hw.1; have hlk : (Instr.lookup 49 (.map (some wm)) (.int .i64 b) false).run Try.prog w = .ok (.int .i64 S0) w := hw.2; have hw9 := hwx.out; have hw8 := hwx8.out; have hji9 := hji; go_simp⟩ ?_
          go_frame
          refine Tkc.takeC (i := 2) (v := .int .i64 S0) rfl (by kernel_rfl) (by kernel_rfl) (by kernel_rfl) (fun _ _ _ h => h) (by decide) (by kernel_rfl) (by kernel_rfl) hcq ⟨by kernel_rfl, fun w hw => by have hcl : w.cell? ⟨gl, ol + j, none⟩ = some (.int .i64 x) := hw.1; have hlk : (Instr.lookup 49 (.map (some wm)) (.int .i64 b) false).run Try.prog w = .ok (.int .i64 S0) w := hw.2; have hw9 := hwx.out; have hw8 := hwx8.out; have hji9 := hji; go_simp⟩ ?_
          go_frame
          refine Tkc.takeC (i := 3) (v := .slice (some ⟨gl, ol, none⟩) n c) rfl (by kernel_rfl) (by kernel_rfl) (by kernel_rfl) (fun _ _ _ h => h) (by decide) (by kernel_rfl) (by kernel_rfl) hcq ⟨by kernel_rfl, fun w hw => by have hcl : w.cell? ⟨gl, ol + j, none⟩ = some (.int .i64 x) := hw.1; have hlk : (Instr.lookup 49 (.map (some wm)) (.int .i64 b) false).run Try.prog w = .ok (.int .i64 S0) w := hw.2; have hw9 := hwx.out; have hw8 := hwx8.out; have hji9 := hji; go_simp⟩ ?_
          go_frame
          refine Tkc.takeC (i := 4) (v := .int .i64 (j : Int)) rfl (by kernel_rfl) (by kernel_rfl) (by kernel_rfl) (fun _ _ _ h => h) (by decide) (by kernel_rfl) (by kernel_rfl) hcq ⟨by kernel_rfl, fun w hw => by have hcl : w.cell? ⟨gl, ol + j, none⟩ = some (.int .i64 x) := hw.1; have hlk : (Instr.lookup 49 (.map (some wm)) (.int .i64 b) false).run Try.prog w = .ok (.int .i64 S0) w := hw.2; have hw9 := hwx.out; have hw8 := hwx8.out; have hji9 := hji; go_simp⟩ ?_
          go_frame
          refine Tkc.takeC (i := 5) (v := .pointer (some ⟨gl, ol + j, none⟩)) rfl (by kernel_rfl) (by kernel_rfl) (by kernel_rfl) (fun _ _ _ h => h) (by decide) (by kernel_rfl) (by kernel_rfl) hcq ⟨by kernel_rfl, fun w hw => by have hcl : w.cell? ⟨gl, ol + j, none⟩ = some (.int .i64 x) := hw.1; have hlk : (Instr.lookup 49 (.map (some wm)) (.int .i64 b) false).run Try.prog w = .ok (.int .i64 S0) w := hw.2; have hw9 := hwx.out; have hw8 := hwx8.out; have hji9 := hji; go_simp⟩ ?_
          go_frame
          refine Tkc.takeC (i := 6) (v := .int .i64 x) rfl (by kernel_rfl) (by kernel_rfl) (by kernel_rfl) (fun _ _ _ h => h) (by decide) (by kernel_rfl) (by kernel_rfl) hcq ⟨by kernel_rfl, fun w hw => by have hcl : w.cell? ⟨gl, ol + j, none⟩ = some (.int .i64 x) := hw.1; have hlk : (Instr.lookup 49 (.map (some wm)) (.int .i64 b) false).run Try.prog w = .ok (.int .i64 S0) w := hw.2; have hw9 := hwx.out; have hw8 := hwx8.out; have hji9 := hji; go_simp⟩ ?_
          go_frame
          refine Tkc.takeC (i := 7) (v := .int .i64 (S0 + x)) rfl (by kernel_rfl) (by kernel_rfl) (by kernel_rfl) (fun _ _ _ h => h) (by decide) (by kernel_rfl) (by kernel_rfl) hcq ⟨by kernel_rfl, fun w hw => by have hcl : w.cell? ⟨gl, ol + j, none⟩ = some (.int .i64 x) := hw.1; have hlk : (Instr.lookup 49 (.map (some wm)) (.int .i64 b) false).run Try.prog w = .ok (.int .i64 S0) w := hw.2; have hw9 := hwx.out; have hw8 := hwx8.out; have hji9 := hji; go_simp⟩ ?_
          go_frame
          obtain ⟨w4, hrun4, hown4, hturn4⟩ := hownd.out.store lawKI Try.underlying49 hnm.out (keyOf_int_mk Try.underlying3 hbwH.out) (show plE (.int .i64 (S0 + x)) = some (vlI (S0 + x), []) from rfl)
          refine Tkc.onlyC (i := 8) rfl (by kernel_rfl) (fun _ => hcq) (by kernel_rfl) (fun K hK => ?_)
          go_simp
          refine hK _ _ ?_
          clear hK K
          refine Tkc.doneC (by kernel_rfl) (fun hz => by have hz' : true = false := hz; cases hz') ?_
          clear hcq hrun4
          try go_frame
          have hR4 := hRH.out.put b (S0 + x)
          have hB4 : Below w.heap.size w w4 := hbld.out.grown hturn4.grown hbld.out.size (fun k hk => by cases hk; exact hwmH.out)
          have hS4 : ∀ y, (fun y => if y = b then S0 + x else bxS l B j y) y = bxS l B (j + 1) y := fun y => by
            show (if y = b then S0 + x else bxS l B j y) = _
            rw [hsS.out y]
            by_cases e : y = b
            · rw [if_pos e, if_pos e, hS0H.out]
            · rw [if_neg e, if_neg e]
          have hR5 : Rm (D.put (kyI b) (vlI (S0 + x))) (bxK B (j + 1)) (bxS l B (j + 1)) := by
            rw [hsK.out]
            exact ⟨hR4.tidy, hR4.has, fun y => by rw [← hS4 y]; exact hR4.at0 y, hR4.size⟩
          have hlk5 := rm_look hown4 hR5 hbwH.out
          have e5 : bxS l B (j + 1) b = S0 + x := by rw [hsS.out, if_pos rfl, hS0H.out]
          rw [e5] at hlk5
          have hR5H : Hid _ := hR5
          have hB4H : Hid (Below w.heap.size w w4) := hB4
          have hown4H : Hid _ := hown4
          clear hR4 hS4 hR5 e5 hB4 hturn4 hown4 hownd hbld hRH hsS hsK
          by_cases c1 : b < 0
          · have c1d : decide (b < 0) = true := decide_eq_true c1
            have hfa : Hid (bxO l B size (j + 1) = false) := by show _ = _; rw [hsO.out, decide_eq_false (by omega), Bool.false_and]
            have hfin : Hid (bxR l B size = (0, 1)) := by show _ = _; rw [hres.out, hbad.out (j + 1) (by have := hjH.out; omega) hfa.out]; rfl
            clear c1
            go_wp2
            (try simp only [Exit.inBlock, Exit.then]); refine bodyPost_ret (results_tmp2 rfl _ _ _) rfl ?_
            rw [hfin.out]
            exact ⟨rfl, hB4H.out⟩
          · have c1d : decide (b < 0) = false := decide_eq_false c1
            by_cases c2 : size < S0 + x
            · have c2d : decide (size < S0 + x) = true := decide_eq_true c2
              have hfa : Hid (bxO l B size (j + 1) = false) := by show _ = _; rw [hsO.out, decide_eq_false (show ¬ S0 + x ≤ size by omega), Bool.and_false]
              have hfin : Hid (bxR l B size = (0, 1)) := by show _ = _; rw [hres.out, hbad.out (j + 1) (by have := hjH.out; omega) hfa.out]; rfl
              clear c1
              go_wp2
              (try simp only [Exit.inBlock, Exit.then]); refine bodyPost_ret (results_tmp2 rfl _ _ _) rfl ?_
              rw [hfin.out]
              exact ⟨rfl, hB4H.out⟩
            · have c2d : decide (size < S0 + x) = false := decide_eq_false c2
              have hgo : Hid (bxO l B size (j + 1) = true) := by show _ = _; rw [hsO.out, decide_eq_true (show 0 ≤ b by omega), decide_eq_true (show S0 + x ≤ size by omega)]; rfl
              clear c1
              go_wp2
              refine ⟨⟨j + 1, nD + 1, _, ?_, hjH.out, hgo, hown4H.out, Nat.succ_le_succ hnDH.out, hR5H.out, hB4H.out⟩, ?_⟩
              · first | exact int_succ j | exact int_wsucc hj2.out
              · first | exact meas_1 hjH.out | exact meas_w hjH.out hj2.out
        · have hji : ¬ (j : Int) < (n : Int) := by omega
          have e : j = n := by omega
          subst e
          have hsz : (Maps.size D : Int) = ((bxK B j).length : Int) := by rw [hR.size]
          have hres2 : Hid (bxR l B size = (((bxK B j).length : Int), 0)) := by show _ = _; rw [hres.out, if_pos hO.out]
          clear hR hO hres
          go_wp2_with (first
            | (at_len; refine wpList_len_own _ rfl _ 49 rfl 3 2 Try.underlying49 plE wm nD D rfl hown ?_)
            | fail)
          (try simp only [Exit.inBlock, Exit.then]); refine bodyPost_ret (results_tmp2 rfl _ _ _) rfl ?_
          rw [hres2.out]
          exact ⟨by first | rfl | (rw [← hsz]; rfl), hbl⟩
    · have hres : Hid (bxR l B size = (0, 1)) := by unfold bxR; rw [if_neg (by omega), if_pos hn]; rfl
      have hnz : ((B.length : Int) != (l.length : Int)) = true := by simp; omega
      clear h hB hBw hk k1 k2 k3 k4 hn
      go_enter Try.func11, Try.ntmps11
      go_wp2_with (first
        | (go_at_call 13; refine hc.mono ?_; rintro e w2 ⟨rfl, hb2⟩; clear hc)
        | fail)
      (try simp only [Exit.inBlock, Exit.then]); refine bodyPost_ret (results_tmp2 rfl _ _ _) rfl ?_
      rw [hres.out]
      exact ⟨rfl, hb2⟩
  · have hres : Hid (bxR l B size = (0, kc l size)) := by unfold bxR; rw [if_pos hk]; rfl
    have hkb : (kc l size != 0) = true := by simpa using hk
    clear h hB hBw hk
    go_enter Try.func11, Try.ntmps11
    go_wp2_with (first
      | (go_at_call 13; refine hc.mono ?_; rintro e w2 ⟨rfl, hb2⟩; clear hc)
      | fail)
    (try simp only [Exit.inBlock, Exit.then]); refine bodyPost_ret (results_tmp2 rfl _ _ _) rfl ?_
    rw [hres.out]
    exact ⟨rfl, hb2⟩
end Go.Proofs.Ytfnkboegbclnaaa
