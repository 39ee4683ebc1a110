/- A wheel that is made and played by a law's acts, walked: it is the one that plain mathematics tells. -/
import Derived.Test.YtejfogajlddaeaaWla
namespace Go.Proofs.Ytejfogajlddaeaa
open Go.RowKit Go.Maps Go.Shelf Go.Lib Go.Sort Whm
set_option linter.unusedSectionVars false
variable [Inhabited Tm]
variable [Inhabited Ac]

/-- What an act does to a wheel. -/
def actS (S : Wh) (x : Ac) : Wh := if x.k = 1 then addS S x.a x.i else if x.k = 2 then canS S x.i else if x.a < 0 ∨ 16777216 < x.a then S else advS S x.a
def playS (l : List Ac) : Wh := l.foldl actS ⟨0, 0, []⟩
theorem playS_snoc (l : List Ac) (x : Ac) : playS (l ++ [x]) = actS (playS l) x := by simp [playS, List.foldl_append]
theorem take_ac {l : List Ac} {j : Nat} (hj : j < l.length) : l.take (j + 1) = l.take j ++ [l[j]!] := by
  rw [getElem!_pos l j hj, List.take_append_getElem]

set_option maxHeartbeats 1000000 in
set_option maxRecDepth 100000 in
theorem made_any {w : World} {cx : Nat} {q : Option Addr} {l : List Ac} {cap : Nat} (hc : w.cell? ⟨cx, 0, none⟩ = some (.slice q l.length cap)) (h : Acts w q l) (hlen : l.length ≤ 100) :
    Calls Try.prog 15 #[.pointer (some ⟨cx, 0, none⟩)] w fun e w' => e = .returned (.pointer (some ⟨w.heap.size + 1, 0, none⟩)) ∧ Whl w' (w.heap.size + 1) w.heap.size (playS l) ∧ Ok l.length (playS l) ∧ Below w.heap.size w w' := by
  have hcl : Hid (cx < w.heap.size) := World.block_lt_of_cell? w ⟨cx, 0, none⟩ hc
  have hl : Hid (l.length ≤ 100) := hlen
  clear hlen
  go_enter Try.func15, Try.ntmps15
  go_wp2_with (go_at_call 8; refine (new_any _).mono ?_; rintro e w2 ⟨rfl, hW2, hb2⟩; have hc2 : w2.cell? ⟨cx, 0, none⟩ = some (.slice q l.length cap) := (hb2.cell (p := ⟨cx, 0, none⟩) hcl.out).trans hc)
  clear hc hc2
  have hpb : Hid (w.heap.size ≤ w.heap.size + 1) := by show _ ≤ _; omega
  generalize hpe : w.heap.size + 1 = pb at *
  have hpe' : Hid (w.heap.size + 1 = pb) := hpe
  have hbm : Hid (w.heap.size ≤ w.heap.size) := Nat.le_refl w.heap.size
  go_loopw [8] (fun iv wr => ∃ (j : Nat) (S : Wh), iv = .int .i64 j ∧ j ≤ l.length ∧ Hid (S = playS (l.take j)) ∧ Ok j S ∧ Whl wr pb w.heap.size S ∧ Below w.heap.size w wr)
    (fun iv _ => l.length - (intOf iv).toNat)
  case atStart => exact ⟨0, _, rfl, Nat.zero_le _, rfl, Ok.new 0, hW2, hb2⟩
  case round =>
    clear hW2 hb2 hpe
    obtain ⟨j, S, rfl, hjl, hS, hO, hW, hbl⟩ := hrel
    by_cases hj : j < l.length
    · rcases h with h | ⟨b, o, rfl, hA⟩
      · omega
      have hji : (j : Int) < (l.length : Int) := by omega
      have hj2 : Hid (j < 100) := by show _ < _; have := hl.out; omega
      have z0 : wr.cell? ⟨b, o + j * 4, none⟩ = some (.int .i64 l[j]!.k) := (hbl.cell (p := ⟨b, o + j * 4, none⟩) hA.lt).trans (hA.ck j hj)
      have z1 : wr.cell? ⟨b, o + j * 4 + 1, none⟩ = some (.int .i64 l[j]!.i) := (hbl.cell (p := ⟨b, o + j * 4 + 1, none⟩) hA.lt).trans (hA.ci j hj)
      have z2 : wr.cell? ⟨b, o + j * 4 + 2, none⟩ = some (.int .i64 l[j]!.p) := (hbl.cell (p := ⟨b, o + j * 4 + 2, none⟩) hA.lt).trans (hA.cp j hj)
      have z3 : wr.cell? ⟨b, o + j * 4 + 3, none⟩ = some (.int .i64 l[j]!.a) := (hbl.cell (p := ⟨b, o + j * 4 + 3, none⟩) hA.lt).trans (hA.ca j hj)
      have wi : Hid ((Lit.int .i64 l[j]!.i).wf = true) := hA.wi j hj
      have wa : Hid (-9223372036854775808 ≤ l[j]!.a ∧ l[j]!.a < 9223372036854775808) := hA.wa j hj
      have ht : playS (l.take (j + 1)) = actS (playS (l.take j)) l[j]! := by rw [take_ac hj, playS_snoc]
      rw [← hS.out] at ht
      have ht' : Hid (playS (l.take (j + 1)) = actS S l[j]!) := ht
      have hj3 : j ≤ 100000 := by have := hj2.out; omega
      clear hA ht
      generalize l[j]! = x at *
      by_cases hk1 : x.k = 1
      · go_wp2_with fail
        have hWq := Whl_alloc hW (Obj.cells #[.int .i64 1, .int .i64 x.i, .int .i64 x.p, .int .i64 x.a] 27)
        have hbq : Below w.heap.size w (wr.alloc (Obj.cells #[.int .i64 1, .int .i64 x.i, .int .i64 x.p, .int .i64 x.a] 27)) := hbl.alloc hbl.size _
        clear hW hbl z0 z1 z2 z3
        generalize wr.alloc (Obj.cells #[.int .i64 1, .int .i64 x.i, .int .i64 x.p, .int .i64 x.a] 27) = wq at *
        have hadd := add_any (at_ := x.a) (id := x.i) hWq hO (by have := hj2.out; omega) wa.out.2 wi.out
        have hO3 := hO.add x.a x.i
        have ht2 : Hid (addS S x.a x.i = playS (l.take (j + 1))) := by show _ = _; rw [ht'.out]; simp [actS, hk1]
        generalize addE S x.a x.i = ev at hadd
        generalize addS S x.a x.i = S3 at *
        refine hadd.mono ?_
        rintro e w3 ⟨rfl, hW3, hK3⟩
        have hB3 : Below w.heap.size w w3 := hbq.trans (hK3.below hpb.out hbm.out hbq.size)
        clear hadd
        go_wp2_with fail
        refine ⟨⟨j + 1, S3, ?_, hj, ht2, hO3, hW3, hB3⟩, ?_⟩
        · first | exact int_succ j | exact int_wsucc hj3
        · first | exact meas_1 hj | exact meas_w hj hj3
      by_cases hk2 : x.k = 2
      · go_wp2_with fail
        have hWq := Whl_alloc hW (Obj.cells #[.int .i64 2, .int .i64 x.i, .int .i64 x.p, .int .i64 x.a] 27)
        have hbq : Below w.heap.size w (wr.alloc (Obj.cells #[.int .i64 2, .int .i64 x.i, .int .i64 x.p, .int .i64 x.a] 27)) := hbl.alloc hbl.size _
        clear hW hbl z0 z1 z2 z3
        generalize wr.alloc (Obj.cells #[.int .i64 2, .int .i64 x.i, .int .i64 x.p, .int .i64 x.a] 27) = wq at *
        have hadd := cancel_any (id := x.i) hWq wi.out
        have hO3 := (hO.can x.i).mono (Nat.le_succ j)
        have ht2 : Hid (canS S x.i = playS (l.take (j + 1))) := by show _ = _; rw [ht'.out]; simp [actS, hk2]
        generalize canE S x.i = ev at hadd
        generalize canS S x.i = S3 at *
        refine hadd.mono ?_
        rintro e w3 ⟨rfl, hW3, hK3⟩
        have hB3 : Below w.heap.size w w3 := hbq.trans (hK3.below hpb.out hbm.out hbq.size)
        clear hadd
        go_wp2_with fail
        refine ⟨⟨j + 1, S3, ?_, hj, ht2, hO3, hW3, hB3⟩, ?_⟩
        · first | exact int_succ j | exact int_wsucc hj3
        · first | exact meas_1 hj | exact meas_w hj hj3
      go_wp2_with fail
      have hWq := Whl_alloc hW (Obj.cells #[.int .i64 x.k, .int .i64 x.i, .int .i64 x.p, .int .i64 x.a] 27)
      have hbq : Below w.heap.size w (wr.alloc (Obj.cells #[.int .i64 x.k, .int .i64 x.i, .int .i64 x.p, .int .i64 x.a] 27)) := hbl.alloc hbl.size _
      clear hW hbl z0 z1 z2 z3
      generalize wr.alloc (Obj.cells #[.int .i64 x.k, .int .i64 x.i, .int .i64 x.p, .int .i64 x.a] 27) = wq at *
      by_cases hbad : x.a < 0 ∨ 16777216 < x.a
      · have hadv := adv_bad (w := wq) (pb := pb) hbad
        have ht2 : Hid (S = playS (l.take (j + 1))) := by show _ = _; rw [ht'.out]; simp [actS, hk1, hk2, hbad]
        clear hbad
        refine hadv.mono ?_
        rintro e w3 ⟨rfl, hw3⟩
        rw [hw3]
        clear hw3 hadv
        go_wp2_with fail
        refine ⟨⟨j + 1, S, ?_, hj, ht2, hO.mono (Nat.le_succ j), hWq, hbq⟩, ?_⟩
        · first | exact int_succ j | exact int_wsucc hj3
        · first | exact meas_1 hj | exact meas_w hj hj3
      · have hadv := adv_ok2 (n := x.a) hWq hO (by have := hj2.out; omega) (by omega) (by omega)
        have hO3 : Ok (j + 1) (advS S x.a) := hO.adv (by omega) (by omega)
        have ht2 : Hid (advS S x.a = playS (l.take (j + 1))) := by show _ = _; rw [ht'.out]; simp [actS, hk1, hk2, hbad]
        generalize dueL S x.a = F at *
        generalize advS S x.a = S3 at *
        clear hbad
        refine hadv.mono ?_
        rintro e w3 ⟨p, fcap, rfl, hrow, hW3, hK3⟩
        have hB3 : Below w.heap.size w w3 := hbq.trans (hK3.below hpb.out hbm.out hbq.size)
        clear hadv hrow
        go_wp2_with fail
        refine ⟨⟨j + 1, S3, ?_, hj, ht2, hO3, hW3, hB3⟩, ?_⟩
        · first | exact int_succ j | exact int_wsucc hj3
        · first | exact meas_1 hj | exact meas_w hj hj3
    · have hji : ¬ (j : Int) < (l.length : Int) := by omega
      have e : j = l.length := by omega
      have hS' := hS.out
      rw [e, List.take_length] at hS'
      have hO' : Hid (Ok l.length (playS l)) := by show Ok _ _; rw [← hS', ← e]; exact hO
      have hW' : Hid (Whl wr pb w.heap.size (playS l)) := by show Whl _ _ _ _; rw [← hS']; exact hW
      clear hS' e hS hO hW h
      go_wp2
      go_ret
      rw [hpe'.out]
      exact ⟨rfl, hW'.out, hO'.out, hbl⟩
end Go.Proofs.Ytejfogajlddaeaa
