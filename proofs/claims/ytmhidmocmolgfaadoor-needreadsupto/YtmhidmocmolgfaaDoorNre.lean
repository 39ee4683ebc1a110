/- The reference's NeedRead, walked. -/
import Derived.Test.YtmhidmocmolgfaaDoorNrt
import Derived.Test.YtmhidmocmolgfaaDoorNrx
namespace Go.Proofs.YtmhidmocmolgfaaDoor
open Go.RowKit Ndm Txt Spl
set_option linter.unusedSectionVars false
set_option linter.unusedVariables false

/-- How all lies while pieces are read: the answer's box, the numbers, the pieces. -/
structure RdS (w wr : World) (gp : Nat) (L : List (List UInt8)) (a : N3) : Prop where
  b1 : wr.heap[w.heap.size]? = some (.cells #[.int .i64 0, .int .i64 0, .int .i64 0] 23 (0, 0))
  b2 : wr.heap[w.heap.size + 1]? = some (.cells #[.int .i64 a.x, .int .i64 a.y, .int .i64 a.z] 61 (0, 0))
  pc : ∀ j, j < L.length → wr.cell? ⟨gp, j, none⟩ = some (.string ⟨(L.getD j []).toArray⟩)
  lo : w.heap.size + 1 < gp
  hi : gp < wr.heap.size
  bl : Below w.heap.size w wr
theorem RdS.alloc {w wr : World} {gp : Nat} {L : List (List UInt8)} {a : N3} (h : RdS w wr gp L a) (o : Obj) : RdS w (wr.alloc o) gp L a := by
  obtain ⟨b1, b2, pc, lo, hi, bl⟩ := h
  refine ⟨(Below.heap_alloc _ _ _ (by have := bl.size; omega)).trans b1, (Below.heap_alloc _ _ _ (by omega)).trans b2, fun j hj => ?_, lo, by simp; omega, bl.alloc bl.size _⟩
  have hA : Below wr.heap.size wr (wr.alloc o) := (Below.refl _ _).alloc (Nat.le_refl _) _
  rw [hA.cell (p := ⟨gp, j, none⟩) hi]
  exact pc j hj
theorem RdS.set {w wr : World} {gp : Nat} {L : List (List UInt8)} {a : N3} (h : RdS w wr gp L a) {i : Nat} (hi3 : i < 3) (n : Int) : RdS w (wr.setCell ⟨w.heap.size + 1, i, none⟩ (.int .i64 n)) gp L (setN a i n) := by
  obtain ⟨b1, b2, pc, lo, hi, bl⟩ := h
  refine ⟨(Below.heap_setCell _ _ _ _ (by show w.heap.size ≠ w.heap.size + 1; omega)).trans b1, ?_, fun j hj => ?_, lo, by simpa [World.setCell] using hi, bl.setCell (by show w.heap.size ≤ w.heap.size + 1; omega) _⟩
  · have := heap_setCell_same wr (w.heap.size + 1) i _ _ (.int .i64 n) b2
    rw [this]
    rcases (show i = 0 ∨ i = 1 ∨ i = 2 by omega) with rfl | rfl | rfl <;> rfl
  · have hc := pc j hj
    have hh := Below.heap_setCell wr (⟨w.heap.size + 1, i, none⟩ : Addr) (.int .i64 n) gp (by show gp ≠ w.heap.size + 1; omega)
    rw [← hc]
    unfold World.cell?
    rw [hh]
/-- The kind that a piece names, where it has more behind the name. -/
def mkd (x : List UInt8) : Nat := if 4 < x.length then knd x else 3
theorem mkd_none {x : List UInt8} {a : N3} (h : mkd x = 3) : pcS x a = none := by
  unfold mkd at h
  unfold pcS
  split at h
  · rw [if_pos h]
  · split
    · rfl
    · rw [List.drop_eq_nil_of_le (by omega)]
      rfl
theorem mkd_some {x : List UInt8} {a : N3} (h : mkd x ≠ 3) : 4 < x.length ∧ pcS x a = (psN (x.drop 4)).map (setN a (mkd x)) := by
  unfold mkd at *
  split at h
  · next hl =>
    refine ⟨hl, ?_⟩
    rw [if_pos hl]
    unfold pcS
    rw [if_neg h]
    cases psN (x.drop 4) <;> rfl
  · exact absurd rfl h
theorem mkd_le (x : List UInt8) : mkd x ≤ 3 := by
  unfold mkd
  split
  · exact knd_le x
  · omega
def nm4 : Nat → List UInt8
  | 0 => [99, 112, 117, 61]
  | 1 => [109, 101, 109, 61]
  | _ => [103, 112, 117, 61]
theorem mkd_at {x : List UInt8} {j : Nat} (h : mkd x = j) (h3 : j < 3) : 4 < x.length ∧ x.take 4 = nm4 j := by
  obtain ⟨hl, _⟩ := mkd_some (a := nz) (by omega : mkd x ≠ 3)
  refine ⟨hl, ?_⟩
  unfold mkd at h
  rw [if_pos hl] at h
  unfold knd at h
  split at h
  · next e => subst h; exact e
  · split at h
    · next e => subst h; exact e
    · split at h
      · next e => subst h; exact e
      · omega
theorem mkd_not {x : List UInt8} {j : Nat} (h : mkd x ≠ j) (h3 : j < 3) (hl : 4 < x.length) : x.take 4 ≠ nm4 j := by
  intro e
  apply h
  unfold mkd
  rw [if_pos hl]
  unfold knd
  rcases (show j = 0 ∨ j = 1 ∨ j = 2 by omega) with rfl | rfl | rfl
  · exact if_pos e
  · rw [if_neg (by rw [e]; decide)]
    exact if_pos e
  · rw [if_neg (by rw [e]; decide), if_neg (by rw [e]; decide)]
    exact if_pos e
theorem results_NeedRead {tmps : Array Value} {w : World} {g : Nat} {cs : Array Value} {v : Value} (hp : tmps.getD 2 undef = .pointer (some ⟨g, 0, none⟩)) (hg : w.heap[g]? = some (.cells cs 23 (0, 0))) (hcs : cs.size = 3) (h7 : tmps.getD 3 undef = v) : (results Tryd.f11 tmps).run Tryd.prog w = .ok (.tuple #[.agg cs, v]) w := by
  have hp' : tmps[2]?.getD undef = .pointer (some ⟨g, 0, none⟩) := by simpa using hp
  have h7' : tmps[3]?.getD undef = v := by simpa using h7
  simp [results, Tryd.results11, hp', h7', asAddr, run_loadVar_row w g _ 23 cs (0, 0) _ hg Tryd.underlying23 rfl (need_info cs hcs)]

theorem ret_rd {a b c a' b' c' e e' : Int} (h1 : a = a') (h2 : b = b') (h3 : c = c') (h4 : e = e') : Ending.returned (.tuple #[.agg #[.int .i64 a, .int .i64 b, .int .i64 c], .int .i64 e]) = .returned (.tuple #[.agg #[.int .i64 a', .int .i64 b', .int .i64 c'], .int .i64 e']) := by rw [h1, h2, h3, h4]
/-- What the reference answers of the numbers read. -/
def fiN (P : Option N3) (l : List UInt8) : Option N3 := P.bind fun a => if txN a = l then some a else none
theorem fiN_none (l : List UInt8) : fiN none l = none := rfl

set_option maxHeartbeats 8000000 in
set_option maxRecDepth 100000 in
theorem readR_loop (l : List UInt8) (w : World) (hl : (l.length : Int) ≤ 1900000) (hne : l ≠ [45]) (P : Option N3) (HP : Hid (pcF (sp 44 l) nz = P)) (V : N3) (E : Int) (HV : Hid (rV (fiN P l) = V)) (HE : Hid (rE (fiN P l) = E)) :
    Calls Tryd.prog 11 #[.string ⟨l.toArray⟩] w fun e w' => e = .returned (.tuple #[(.agg #[.int .i64 V.x, .int .i64 V.y, .int .i64 V.z]), .int .i64 E]) ∧ Below w.heap.size w w' := by
  obtain ⟨s, hse⟩ : ∃ s, s = ByteArray.mk l.toArray := ⟨_, rfl⟩
  have hpc : ∀ w1, Calls Tryd.prog 39 #[.string ⟨l.toArray⟩, .int .u8 44] w1 fun e w' => ∃ g cap : Nat, e = .returned (.slice (some ⟨g, 0, none⟩) (sp 44 l).length cap) ∧ w'.ownsRow w1.heap.size 9 1 (.slice (some ⟨g, 0, none⟩) (sp 44 l).length cap) (sp 44 l).length (strs (sp 44 l)) ∧ Below w1.heap.size w1 w' := fun w1 => Pieces_any l 44 w1 (by omega)
  have hlen := sp_count 44 l
  have hple := sp_len 44 l
  have hdash : (s.toList == [45]) = false := by rw [list_of, hse]; simpa using hne
  have hsL : Hid (s.toList = l) := by show _ = _; rw [list_of, hse]
  rw [← hse] at hpc ⊢
  obtain ⟨L, hL⟩ : ∃ L, sp 44 l = L := ⟨_, rfl⟩
  rw [hL] at hpc hlen hple HP
  have h1 : ((w.alloc (.cells #[.int .i64 0, .int .i64 0, .int .i64 0] 23)).alloc (.cells #[.int .i64 0, .int .i64 0, .int .i64 0] 61)).heap[w.heap.size]? = some (.cells #[.int .i64 0, .int .i64 0, .int .i64 0] 23 (0, 0)) := (Below.heap_alloc _ _ _ (by simp)).trans (heap_alloc_new _ _)
  have h2 : ((w.alloc (.cells #[.int .i64 0, .int .i64 0, .int .i64 0] 23)).alloc (.cells #[.int .i64 0, .int .i64 0, .int .i64 0] 61)).heap[w.heap.size + 1]? = some (.cells #[.int .i64 0, .int .i64 0, .int .i64 0] 61 (0, 0)) := by
    have h := heap_alloc_new (w.alloc (.cells #[.int .i64 0, .int .i64 0, .int .i64 0] 23)) (.cells #[.int .i64 0, .int .i64 0, .int .i64 0] 61)
    have e : (w.alloc (.cells #[.int .i64 0, .int .i64 0, .int .i64 0] 23)).heap.size = w.heap.size + 1 := by simp
    rw [e] at h
    exact h
  have hB : Hid (Below w.heap.size w ((w.alloc (.cells #[.int .i64 0, .int .i64 0, .int .i64 0] 23)).alloc (.cells #[.int .i64 0, .int .i64 0, .int .i64 0] 61))) := ((Below.refl _ _).alloc (Nat.le_refl _) _).alloc (by simp) _
  have h1H : Hid (_ = _) := h1
  have h2H : Hid (_ = _) := h2
  have HLE : Hid (∀ x ∈ L, x.length ≤ l.length) := hple
  have HLN : Hid ((L.length : Int) ≤ 1900001) := by show _ ≤ _; omega
  have HLL : Hid ((l.length : Int) ≤ 1900000) := hl
  have hLn := HLN.out
  clear h1 h2 hse hne hple hL hlen hl
  go_enter Tryd.func11, Tryd.ntmps11
  go_wp2_with (first
    | (go_at_call 39; refine (hpc _).mono ?_; rintro e w3 ⟨g, cap, rfl, hown, hb3⟩; clear hpc)
    | go_in)
  have hR0 : Hid (RdS w w3 g L nz) := by
    have hlt := hown.lt g rfl
    refine ⟨(hb3.block w.heap.size (by simp; omega)).trans h1H.out, (hb3.block (w.heap.size + 1) (by simp)).trans h2H.out, fun j hj => ?_, ?_, hlt.2, hB.out.trans (hb3.mono hB.out.size)⟩
    · have hc := hown.cellAt j (by omega)
      refine (Eq.trans ?_ hc).trans ?_
      · rfl
      · unfold strs
        rw [List.getElem?_map, List.getElem?_eq_getElem hj, List.getD_eq_getElem?_getD, List.getElem?_eq_getElem hj]
        rfl
    · have := hlt.1
      simp at this
      omega
  clear hown hb3 hB h1H h2H
  go_loopw [19] (fun iv wr => ∃ (m : Nat) (a : N3), iv = .int .i64 m ∧ m ≤ L.length ∧ Hid (pcF (L.take m) nz = some a) ∧ Hid (RdS w wr g L a)) (fun iv _ => L.length - (intOf iv).toNat)
  case atStart => exact ⟨0, nz, rfl, Nat.zero_le _, rfl, hR0⟩
  case round =>
    clear hR0
    obtain ⟨m, a, rfl, hm, hpf, hR⟩ := hrel
    by_cases hml : m < L.length
    · have hxc := hR.out.pc m hml
      have hstep : pcF (L.take (m + 1)) nz = pcS (L.getD m []) a := by
        rw [List.take_succ_eq_append_getElem hml, pcF_snoc, hpf.out, List.getD_eq_getElem?_getD, List.getElem?_eq_getElem hml]
        rfl
      have hxl : ((L.getD m []).length : Int) ≤ 1900000 := by
        have h1 := HLE.out (L.getD m []) (by rw [List.getD_eq_getElem?_getD, List.getElem?_eq_getElem hml]; exact List.getElem_mem hml)
        have h2 := HLL.out
        omega
      have hnone : Hid (pcS (L.getD m []) a = none → P = none) := fun hn => by
        rw [← HP.out, ← List.take_append_drop (m + 1) L]
        exact pcF_none _ _ _ (hstep.trans hn)
      have hnext : Hid (pcF (L.take (m + 1)) nz = pcS (L.getD m []) a) := hstep
      generalize L.getD m [] = x at *
      obtain ⟨xb, hxb⟩ : ∃ xb, xb = ByteArray.mk x.toArray := ⟨_, rfl⟩
      rw [← hxb] at hxc
      have hxs : xb.size = x.length := by rw [hxb]; exact mk_size x
      have hx4 : Hid ((xb.extract 0 4).toList = x.take 4) := by
        show _ = _
        rw [list_of, hxb]
        simp
      have hxd : Hid ((xb.extract 4 xb.size).data.toList = x.drop 4) := by
        show _ = _
        rw [hxs, hxb]
        simp
        exact List.take_of_length_le (by simp)
      have hio := fun w1 => IntOf_any (xb.extract 4 xb.size) w1 (by have : (xb.extract 4 xb.size).size ≤ xb.size := by simp
                                                                    omega)
      have hxi : (xb.size : Int) ≤ 1900000 := by omega
      have HXS : Hid (xb.size = x.length) := hxs
      clear hstep hxl hxb hxs hpf
      go_wp2
      have hRn := hR.out.alloc (.cells #[.string ⟨#[99, 112, 117, 61]⟩, .string ⟨#[109, 101, 109, 61]⟩, .string ⟨#[103, 112, 117, 61]⟩] 9)
      have hnw := cells_new wr [.string ⟨#[99, 112, 117, 61]⟩, .string ⟨#[109, 101, 109, 61]⟩, .string ⟨#[103, 112, 117, 61]⟩] 9
      have hnm : Hid (∀ j : Nat, j < 3 → (wr.alloc (.cells #[.string ⟨#[99, 112, 117, 61]⟩, .string ⟨#[109, 101, 109, 61]⟩, .string ⟨#[103, 112, 117, 61]⟩] 9)).cell? ⟨wr.heap.size, j, none⟩ = some (.string ⟨(nm4 j).toArray⟩)) := fun j hj => by
        rcases (show j = 0 ∨ j = 1 ∨ j = 2 by omega) with rfl | rfl | rfl
        · have := hnw 0 _ rfl
          rw [Addr.add_lit, Nat.zero_add] at this
          exact this
        · have := hnw 1 _ rfl
          rw [Addr.add_lit, Nat.zero_add] at this
          exact this
        · have := hnw 2 _ rfl
          rw [Addr.add_lit, Nat.zero_add] at this
          exact this
      have hgn : Hid (w.heap.size + 1 < wr.heap.size) := Nat.lt_trans hR.out.lo hR.out.hi
      have hRn2 : Hid (RdS w (wr.alloc (.cells #[.string ⟨#[99, 112, 117, 61]⟩, .string ⟨#[109, 101, 109, 61]⟩, .string ⟨#[103, 112, 117, 61]⟩] 9)) g L a) := hRn
      clear hRn hnw hR hxc
      generalize wr.alloc (.cells #[.string ⟨#[99, 112, 117, 61]⟩, .string ⟨#[109, 101, 109, 61]⟩, .string ⟨#[103, 112, 117, 61]⟩] 9) = wn at *
      generalize wr.heap.size = gn at *
      go_loopw [7, 25] (fun fv jv wq => ∃ (j : Nat), (j = 0 ∧ jv = .int .i64 0 ∨ j = 1 ∧ jv = .int .i64 1 ∨ j = 2 ∧ jv = .int .i64 2 ∨ j = 3 ∧ jv = .int .i64 3) ∧ Hid (∀ j : Nat, j < 3 → wq.cell? ⟨gn, j, none⟩ = some (.string ⟨(nm4 j).toArray⟩)) ∧ (Hid (j ≤ mkd x) ∧ fv = .bool false ∧ Hid (RdS w wq g L a) ∨ Hid (mkd x < j) ∧ fv = .bool true ∧ ∃ n, Hid (psN (x.drop 4) = some n) ∧ Hid (RdS w wq g L (setN a (mkd x) n)))) (fun _ jv _ => 3 - (intOf jv).toNat)
      case atStart => exact ⟨0, Or.inl ⟨rfl, rfl⟩, hnm, Or.inl ⟨Nat.zero_le _, rfl, hRn2⟩⟩
      case round =>
        clear hnm hRn2
        obtain ⟨j, hj, hnm, hst⟩ := hrel
        rcases hj with ⟨rfl, rfl⟩ | ⟨rfl, rfl⟩ | ⟨rfl, rfl⟩ | ⟨rfl, rfl⟩
        · have hc : wr.cell? ⟨gn, 0, none⟩ = some (.string ⟨#[99, 112, 117, 61]⟩) := hnm.out 0 (by omega)
          rcases hst with ⟨hjm, rfl, hR⟩ | ⟨hjm, rfl, n, hpn, hR⟩
          · by_cases hmj : mkd x = 0
            · obtain ⟨hl4, htk⟩ := mkd_at hmj (by omega)
              have q4 : (4 : Int) < (xb.size : Int) := by have := HXS.out; omega
              have q5 : (4 : Int) ≤ (xb.size : Int) := by omega
              have hb : ((xb.extract 0 4).toList == [99, 112, 117, 61]) = true := by rw [hx4.out, htk]; rfl
              have hps3 : Hid (∀ b : N3, pcS x b = (psN (x.drop 4)).map (setN b 0)) := fun b => by rw [(mkd_some (a := b) (by omega : mkd x ≠ 3)).2, hmj]
              have hz0 : wr.cell? ⟨w.heap.size + 1, 0, none⟩ = some (.int .i64 (getN a 0)) := (cell_of_row _ _ 0 _ _ _ hR.out.b2).trans rfl
              have hfz : wr.frozen? ⟨w.heap.size + 1, 0, none⟩ = false := by simp [World.frozen?, hR.out.b2]
              have hmjH : Hid (mkd x = 0) := hmj
              clear hl4 htk hmj
              go_wp2_with fail
              refine (hio _).mono ?_
              rintro e w6 ⟨⟨v, ok, rfl, hI⟩, hw6⟩
              have hw7 := hw6.symm
              subst hw7
              clear hio
              have hI2 : IoR (x.drop 4) v ok := by rw [← hxd.out]; exact hI.out
              have hIH : Hid (IoR (x.drop 4) v ok) := hI2
              clear hI hI2
              cases hps : psN (x.drop 4) with
              | none =>
                have hPn : P = none := hnone.out (by rw [hps3.out, hps]; rfl)
                have eV : V = nz := by rw [← HV.out, hPn]; rfl
                have eE : E = 3 := by rw [← HE.out, hPn]; rfl
                subst eV
                subst eE
                have hd := hIH.out.2 hps
                clear hPn hps
                cases ok with
                | false =>
                  clear hd
                  have gg1 := hR.out.b1
                  go_wp2_with (first | (refine wpList_store_row rfl 23 _ _ rfl _ #[.int .i64 0, .int .i64 0, .int .i64 0] rfl rfl _ _ gg1 (need_info _ rfl) rfl (need_one _ _ _) ?_) | go_in)
                  refine bodyPost_ret (results_NeedRead rfl (setRow_heap _ w.heap.size _ _ _ _ gg1) rfl rfl) rfl ⟨rfl, below_row hR.out.bl (by omega)⟩
                | true =>
                  have hv : v ≤ 0 := by
                    rcases hd with h | h
                    · cases h
                    · exact h
                  clear hd
                  have gg1 := hR.out.b1
                  go_wp2_with (first | (refine wpList_store_row rfl 23 _ _ rfl _ #[.int .i64 0, .int .i64 0, .int .i64 0] rfl rfl _ _ gg1 (need_info _ rfl) rfl (need_one _ _ _) ?_) | go_in)
                  refine bodyPost_ret (results_NeedRead rfl (setRow_heap _ w.heap.size _ _ _ _ gg1) rfl rfl) rfl ⟨rfl, below_row hR.out.bl (by omega)⟩
              | some n =>
                obtain ⟨ev, eo⟩ := hIH.out.1 n hps
                subst ev
                subst eo
                have hv0 := (psN_some hps).1
                have hpH : Hid (psN (x.drop 4) = some v) := hps
                clear hps
                go_wp2
                refine ⟨⟨1, Or.inr (Or.inl ⟨rfl, by first | rfl | simp⟩), fun i hi => ?_, Or.inr ⟨by show mkd x < 1; rw [hmjH.out]; omega, rfl, v, hpH, ?_⟩⟩, ?_⟩
                · have h1 := hnm.out i hi
                  have hh := Below.heap_setCell wr (⟨w.heap.size + 1, 0, none⟩ : Addr) (.int .i64 v) gn (by show gn ≠ w.heap.size + 1; have := hgn.out; omega)
                  rw [← h1]
                  unfold World.cell?
                  rw [hh]
                · rw [hmjH.out]
                  exact hR.out.set (by omega) v
                · simp [intOf]
            · have hmjH : Hid (¬ mkd x = 0) := hmj
              have hne4 : mkd x ≠ 0 := hmj
              clear hio
              by_cases hl4 : 4 < x.length
              · have q4 : (4 : Int) < (xb.size : Int) := by have := HXS.out; omega
                have q5 : (4 : Int) ≤ (xb.size : Int) := by omega
                have hb : ((xb.extract 0 4).toList == [99, 112, 117, 61]) = false := by
                  rw [hx4.out]
                  have : x.take 4 ≠ [99, 112, 117, 61] := mkd_not hne4 (by omega) hl4
                  simpa using this
                clear hl4 hne4
                go_wp2
                refine ⟨⟨1, Or.inr (Or.inl ⟨rfl, by first | rfl | simp⟩), hnm, Or.inl ⟨by show 1 ≤ mkd x; have h1 := hjm.out; have h2 := hmjH.out; omega, rfl, hR⟩⟩, ?_⟩
                simp [intOf]
              · have q4 : (xb.size : Int) ≤ 4 := by have := HXS.out; omega
                clear hl4 hne4
                go_wp2
                refine ⟨⟨1, Or.inr (Or.inl ⟨rfl, by first | rfl | simp⟩), hnm, Or.inl ⟨by show 1 ≤ mkd x; have h1 := hjm.out; have h2 := hmjH.out; omega, rfl, hR⟩⟩, ?_⟩
                simp [intOf]
          · exact absurd hjm.out (by omega)
        · have hc : wr.cell? ⟨gn, 1, none⟩ = some (.string ⟨#[109, 101, 109, 61]⟩) := hnm.out 1 (by omega)
          rcases hst with ⟨hjm, rfl, hR⟩ | ⟨hjm, rfl, n, hpn, hR⟩
          · by_cases hmj : mkd x = 1
            · obtain ⟨hl4, htk⟩ := mkd_at hmj (by omega)
              have q4 : (4 : Int) < (xb.size : Int) := by have := HXS.out; omega
              have q5 : (4 : Int) ≤ (xb.size : Int) := by omega
              have hb : ((xb.extract 0 4).toList == [109, 101, 109, 61]) = true := by rw [hx4.out, htk]; rfl
              have hps3 : Hid (∀ b : N3, pcS x b = (psN (x.drop 4)).map (setN b 1)) := fun b => by rw [(mkd_some (a := b) (by omega : mkd x ≠ 3)).2, hmj]
              have hz0 : wr.cell? ⟨w.heap.size + 1, 1, none⟩ = some (.int .i64 (getN a 1)) := (cell_of_row _ _ 1 _ _ _ hR.out.b2).trans rfl
              have hfz : wr.frozen? ⟨w.heap.size + 1, 1, none⟩ = false := by simp [World.frozen?, hR.out.b2]
              have hmjH : Hid (mkd x = 1) := hmj
              clear hl4 htk hmj
              go_wp2_with fail
              refine (hio _).mono ?_
              rintro e w6 ⟨⟨v, ok, rfl, hI⟩, hw6⟩
              have hw7 := hw6.symm
              subst hw7
              clear hio
              have hI2 : IoR (x.drop 4) v ok := by rw [← hxd.out]; exact hI.out
              have hIH : Hid (IoR (x.drop 4) v ok) := hI2
              clear hI hI2
              cases hps : psN (x.drop 4) with
              | none =>
                have hPn : P = none := hnone.out (by rw [hps3.out, hps]; rfl)
                have eV : V = nz := by rw [← HV.out, hPn]; rfl
                have eE : E = 3 := by rw [← HE.out, hPn]; rfl
                subst eV
                subst eE
                have hd := hIH.out.2 hps
                clear hPn hps
                cases ok with
                | false =>
                  clear hd
                  have gg1 := hR.out.b1
                  go_wp2_with (first | (refine wpList_store_row rfl 23 _ _ rfl _ #[.int .i64 0, .int .i64 0, .int .i64 0] rfl rfl _ _ gg1 (need_info _ rfl) rfl (need_one _ _ _) ?_) | go_in)
                  refine bodyPost_ret (results_NeedRead rfl (setRow_heap _ w.heap.size _ _ _ _ gg1) rfl rfl) rfl ⟨rfl, below_row hR.out.bl (by omega)⟩
                | true =>
                  have hv : v ≤ 0 := by
                    rcases hd with h | h
                    · cases h
                    · exact h
                  clear hd
                  have gg1 := hR.out.b1
                  go_wp2_with (first | (refine wpList_store_row rfl 23 _ _ rfl _ #[.int .i64 0, .int .i64 0, .int .i64 0] rfl rfl _ _ gg1 (need_info _ rfl) rfl (need_one _ _ _) ?_) | go_in)
                  refine bodyPost_ret (results_NeedRead rfl (setRow_heap _ w.heap.size _ _ _ _ gg1) rfl rfl) rfl ⟨rfl, below_row hR.out.bl (by omega)⟩
              | some n =>
                obtain ⟨ev, eo⟩ := hIH.out.1 n hps
                subst ev
                subst eo
                have hv0 := (psN_some hps).1
                have hpH : Hid (psN (x.drop 4) = some v) := hps
                clear hps
                go_wp2
                refine ⟨⟨2, Or.inr (Or.inr (Or.inl ⟨rfl, by first | rfl | simp⟩)), fun i hi => ?_, Or.inr ⟨by show mkd x < 2; rw [hmjH.out]; omega, rfl, v, hpH, ?_⟩⟩, ?_⟩
                · have h1 := hnm.out i hi
                  have hh := Below.heap_setCell wr (⟨w.heap.size + 1, 1, none⟩ : Addr) (.int .i64 v) gn (by show gn ≠ w.heap.size + 1; have := hgn.out; omega)
                  rw [← h1]
                  unfold World.cell?
                  rw [hh]
                · rw [hmjH.out]
                  exact hR.out.set (by omega) v
                · simp [intOf]
            · have hmjH : Hid (¬ mkd x = 1) := hmj
              have hne4 : mkd x ≠ 1 := hmj
              clear hio
              by_cases hl4 : 4 < x.length
              · have q4 : (4 : Int) < (xb.size : Int) := by have := HXS.out; omega
                have q5 : (4 : Int) ≤ (xb.size : Int) := by omega
                have hb : ((xb.extract 0 4).toList == [109, 101, 109, 61]) = false := by
                  rw [hx4.out]
                  have : x.take 4 ≠ [109, 101, 109, 61] := mkd_not hne4 (by omega) hl4
                  simpa using this
                clear hl4 hne4
                go_wp2
                refine ⟨⟨2, Or.inr (Or.inr (Or.inl ⟨rfl, by first | rfl | simp⟩)), hnm, Or.inl ⟨by show 2 ≤ mkd x; have h1 := hjm.out; have h2 := hmjH.out; omega, rfl, hR⟩⟩, ?_⟩
                simp [intOf]
              · have q4 : (xb.size : Int) ≤ 4 := by have := HXS.out; omega
                clear hl4 hne4
                go_wp2
                refine ⟨⟨2, Or.inr (Or.inr (Or.inl ⟨rfl, by first | rfl | simp⟩)), hnm, Or.inl ⟨by show 2 ≤ mkd x; have h1 := hjm.out; have h2 := hmjH.out; omega, rfl, hR⟩⟩, ?_⟩
                simp [intOf]
          · have hne4 : mkd x ≠ 1 := by have := hjm.out; omega
            clear hio
            by_cases hl4 : 4 < x.length
            · have q4 : (4 : Int) < (xb.size : Int) := by have := HXS.out; omega
              have q5 : (4 : Int) ≤ (xb.size : Int) := by omega
              have hb : ((xb.extract 0 4).toList == [109, 101, 109, 61]) = false := by
                rw [hx4.out]
                have : x.take 4 ≠ [109, 101, 109, 61] := mkd_not hne4 (by omega) hl4
                simpa using this
              clear hl4 hne4
              go_wp2
              refine ⟨⟨2, Or.inr (Or.inr (Or.inl ⟨rfl, by first | rfl | simp⟩)), hnm, Or.inr ⟨by show mkd x < 2; have h1 := hjm.out; omega, rfl, n, hpn, hR⟩⟩, ?_⟩
              simp [intOf]
            · have q4 : (xb.size : Int) ≤ 4 := by have := HXS.out; omega
              clear hl4 hne4
              go_wp2
              refine ⟨⟨2, Or.inr (Or.inr (Or.inl ⟨rfl, by first | rfl | simp⟩)), hnm, Or.inr ⟨by show mkd x < 2; have h1 := hjm.out; omega, rfl, n, hpn, hR⟩⟩, ?_⟩
              simp [intOf]
        · have hc : wr.cell? ⟨gn, 2, none⟩ = some (.string ⟨#[103, 112, 117, 61]⟩) := hnm.out 2 (by omega)
          rcases hst with ⟨hjm, rfl, hR⟩ | ⟨hjm, rfl, n, hpn, hR⟩
          · by_cases hmj : mkd x = 2
            · obtain ⟨hl4, htk⟩ := mkd_at hmj (by omega)
              have q4 : (4 : Int) < (xb.size : Int) := by have := HXS.out; omega
              have q5 : (4 : Int) ≤ (xb.size : Int) := by omega
              have hb : ((xb.extract 0 4).toList == [103, 112, 117, 61]) = true := by rw [hx4.out, htk]; rfl
              have hps3 : Hid (∀ b : N3, pcS x b = (psN (x.drop 4)).map (setN b 2)) := fun b => by rw [(mkd_some (a := b) (by omega : mkd x ≠ 3)).2, hmj]
              have hz0 : wr.cell? ⟨w.heap.size + 1, 2, none⟩ = some (.int .i64 (getN a 2)) := (cell_of_row _ _ 2 _ _ _ hR.out.b2).trans rfl
              have hfz : wr.frozen? ⟨w.heap.size + 1, 2, none⟩ = false := by simp [World.frozen?, hR.out.b2]
              have hmjH : Hid (mkd x = 2) := hmj
              clear hl4 htk hmj
              go_wp2_with fail
              refine (hio _).mono ?_
              rintro e w6 ⟨⟨v, ok, rfl, hI⟩, hw6⟩
              have hw7 := hw6.symm
              subst hw7
              clear hio
              have hI2 : IoR (x.drop 4) v ok := by rw [← hxd.out]; exact hI.out
              have hIH : Hid (IoR (x.drop 4) v ok) := hI2
              clear hI hI2
              cases hps : psN (x.drop 4) with
              | none =>
                have hPn : P = none := hnone.out (by rw [hps3.out, hps]; rfl)
                have eV : V = nz := by rw [← HV.out, hPn]; rfl
                have eE : E = 3 := by rw [← HE.out, hPn]; rfl
                subst eV
                subst eE
                have hd := hIH.out.2 hps
                clear hPn hps
                cases ok with
                | false =>
                  clear hd
                  have gg1 := hR.out.b1
                  go_wp2_with (first | (refine wpList_store_row rfl 23 _ _ rfl _ #[.int .i64 0, .int .i64 0, .int .i64 0] rfl rfl _ _ gg1 (need_info _ rfl) rfl (need_one _ _ _) ?_) | go_in)
                  refine bodyPost_ret (results_NeedRead rfl (setRow_heap _ w.heap.size _ _ _ _ gg1) rfl rfl) rfl ⟨rfl, below_row hR.out.bl (by omega)⟩
                | true =>
                  have hv : v ≤ 0 := by
                    rcases hd with h | h
                    · cases h
                    · exact h
                  clear hd
                  have gg1 := hR.out.b1
                  go_wp2_with (first | (refine wpList_store_row rfl 23 _ _ rfl _ #[.int .i64 0, .int .i64 0, .int .i64 0] rfl rfl _ _ gg1 (need_info _ rfl) rfl (need_one _ _ _) ?_) | go_in)
                  refine bodyPost_ret (results_NeedRead rfl (setRow_heap _ w.heap.size _ _ _ _ gg1) rfl rfl) rfl ⟨rfl, below_row hR.out.bl (by omega)⟩
              | some n =>
                obtain ⟨ev, eo⟩ := hIH.out.1 n hps
                subst ev
                subst eo
                have hv0 := (psN_some hps).1
                have hpH : Hid (psN (x.drop 4) = some v) := hps
                clear hps
                go_wp2
                refine ⟨⟨3, Or.inr (Or.inr (Or.inr ⟨rfl, by first | rfl | simp⟩)), fun i hi => ?_, Or.inr ⟨by show mkd x < 3; rw [hmjH.out]; omega, rfl, v, hpH, ?_⟩⟩, ?_⟩
                · have h1 := hnm.out i hi
                  have hh := Below.heap_setCell wr (⟨w.heap.size + 1, 2, none⟩ : Addr) (.int .i64 v) gn (by show gn ≠ w.heap.size + 1; have := hgn.out; omega)
                  rw [← h1]
                  unfold World.cell?
                  rw [hh]
                · rw [hmjH.out]
                  exact hR.out.set (by omega) v
                · simp [intOf]
            · have hmjH : Hid (¬ mkd x = 2) := hmj
              have hne4 : mkd x ≠ 2 := hmj
              clear hio
              by_cases hl4 : 4 < x.length
              · have q4 : (4 : Int) < (xb.size : Int) := by have := HXS.out; omega
                have q5 : (4 : Int) ≤ (xb.size : Int) := by omega
                have hb : ((xb.extract 0 4).toList == [103, 112, 117, 61]) = false := by
                  rw [hx4.out]
                  have : x.take 4 ≠ [103, 112, 117, 61] := mkd_not hne4 (by omega) hl4
                  simpa using this
                clear hl4 hne4
                go_wp2
                refine ⟨⟨3, Or.inr (Or.inr (Or.inr ⟨rfl, by first | rfl | simp⟩)), hnm, Or.inl ⟨by show 3 ≤ mkd x; have h1 := hjm.out; have h2 := hmjH.out; omega, rfl, hR⟩⟩, ?_⟩
                simp [intOf]
              · have q4 : (xb.size : Int) ≤ 4 := by have := HXS.out; omega
                clear hl4 hne4
                go_wp2
                refine ⟨⟨3, Or.inr (Or.inr (Or.inr ⟨rfl, by first | rfl | simp⟩)), hnm, Or.inl ⟨by show 3 ≤ mkd x; have h1 := hjm.out; have h2 := hmjH.out; omega, rfl, hR⟩⟩, ?_⟩
                simp [intOf]
          · have hne4 : mkd x ≠ 2 := by have := hjm.out; omega
            clear hio
            by_cases hl4 : 4 < x.length
            · have q4 : (4 : Int) < (xb.size : Int) := by have := HXS.out; omega
              have q5 : (4 : Int) ≤ (xb.size : Int) := by omega
              have hb : ((xb.extract 0 4).toList == [103, 112, 117, 61]) = false := by
                rw [hx4.out]
                have : x.take 4 ≠ [103, 112, 117, 61] := mkd_not hne4 (by omega) hl4
                simpa using this
              clear hl4 hne4
              go_wp2
              refine ⟨⟨3, Or.inr (Or.inr (Or.inr ⟨rfl, by first | rfl | simp⟩)), hnm, Or.inr ⟨by show mkd x < 3; have h1 := hjm.out; omega, rfl, n, hpn, hR⟩⟩, ?_⟩
              simp [intOf]
            · have q4 : (xb.size : Int) ≤ 4 := by have := HXS.out; omega
              clear hl4 hne4
              go_wp2
              refine ⟨⟨3, Or.inr (Or.inr (Or.inr ⟨rfl, by first | rfl | simp⟩)), hnm, Or.inr ⟨by show mkd x < 3; have h1 := hjm.out; omega, rfl, n, hpn, hR⟩⟩, ?_⟩
              simp [intOf]
        · rcases hst with ⟨hjm, rfl, hR⟩ | ⟨hjm, rfl, n, hpn, hR⟩
          · have hm3 : mkd x = 3 := by have h1 := hjm.out; have h2 := mkd_le x; omega
            have hPn : P = none := hnone.out (mkd_none hm3)
            have eV : V = nz := by rw [← HV.out, hPn]; rfl
            have eE : E = 3 := by rw [← HE.out, hPn]; rfl
            subst eV
            subst eE
            clear hPn
            have gg1 := hR.out.b1
            clear hio hm3
            go_wp2_with (first | (refine wpList_store_row rfl 23 _ _ rfl _ #[.int .i64 0, .int .i64 0, .int .i64 0] rfl rfl _ _ gg1 (need_info _ rfl) rfl (need_one _ _ _) ?_) | go_in)
            refine bodyPost_ret (results_NeedRead rfl (setRow_heap _ w.heap.size _ _ _ _ gg1) rfl rfl) rfl ⟨rfl, below_row hR.out.bl (by omega)⟩
          · have hm3 : mkd x ≠ 3 := by have h1 := hjm.out; omega
            have hps : Hid (pcF (L.take (m + 1)) nz = some (setN a (mkd x) n)) := by
              show _ = _
              rw [hnext.out, (mkd_some hm3).2, hpn.out]
              rfl
            clear hio hm3
            go_wp2
            refine ⟨⟨m + 1, setN a (mkd x) n, by first | rfl | simp, by omega, hps, hR⟩, ?_⟩
            simp [intOf]
            omega
    · have hPa : P = some a := by
        have := hpf.out
        rw [List.take_of_length_le (by omega)] at this
        exact HP.out.symm.trans this
      subst hPa
      have hnn := pcF_nn _ _ _ nnN_nz hpf.out
      have htx := fun w1 => textR_any a w1 hnn
      have hft := fun w1 => faultR_any a w1
      obtain ⟨b1, b2, pc, lo, hi, bl⟩ := hR.out
      have z0 : wr.cell? ⟨w.heap.size + 1, 0, none⟩ = some (.int .i64 a.x) := (cell_of_row _ _ 0 _ _ _ b2).trans rfl
      have z1 : wr.cell? ⟨w.heap.size + 1, 1, none⟩ = some (.int .i64 a.y) := (cell_of_row _ _ 1 _ _ _ b2).trans rfl
      have z2 : wr.cell? ⟨w.heap.size + 1, 2, none⟩ = some (.int .i64 a.z) := (cell_of_row _ _ 2 _ _ _ b2).trans rfl
      have x12 : (wr.alloc (.cells #[.int .i64 a.x, .int .i64 a.y, .int .i64 a.z] 23)).heap[wr.heap.size]? = some (.cells #[.int .i64 a.x, .int .i64 a.y, .int .i64 a.z] 23 (0, 0)) := heap_alloc_new _ _
      have c1 : Hid ((wr.alloc (.cells #[.int .i64 a.x, .int .i64 a.y, .int .i64 a.z] 23)).heap[w.heap.size]? = some (.cells #[.int .i64 0, .int .i64 0, .int .i64 0] 23 (0, 0))) := (Below.heap_alloc _ _ _ (by have := bl.size; omega)).trans b1
      have hBA : Hid (Below w.heap.size w (wr.alloc (.cells #[.int .i64 a.x, .int .i64 a.y, .int .i64 a.z] 23))) := bl.alloc bl.size _
      clear b1 b2 pc lo hi bl hR hnn hpf hLn
      by_cases ht : txN a = l
      · have hf : fiN (some a) l = some a := if_pos ht
        have hcmp : (txN a == s.toList) = true := by rw [hsL.out, ht]; simp
        cases ho : okN a with
        | true =>
          rw [ho] at hft
          replace hft : ∀ w1, Calls Tryd.prog 12 #[(.agg #[.int .i64 a.x, .int .i64 a.y, .int .i64 a.z])] w1 fun e w' => e = .returned (.int .i64 0) ∧ Below w1.heap.size w1 w' := hft
          have e1 : rV (some a) = a := by show (if okN a then a else nz) = a; rw [ho]; rfl
          have e2 : rE (some a) = 0 := by show ce (okN a) = 0; rw [ho]; rfl
          have eV : a = V := by rw [← HV.out, hf, e1]
          have eE : E = 0 := by rw [← HE.out, hf, e2]
          subst eV
          subst eE
          clear e1 e2 hf ht ho
          go_wp2_with (first
            | (refine load_wanted rfl 23 _ rfl _ rfl _ _ _ _ x12 Tryd.underlying23 rfl (need_info _ rfl) ?_)
            | (go_at_call 13; refine (htx _).mono ?_; rintro e w5 ⟨rfl, hb5⟩; have q12 := (hb5.block _ (Array.getElem?_eq_some_iff.1 x12).1).trans x12; have q1 : Hid (w5.heap[w.heap.size]? = some (.cells #[.int .i64 0, .int .i64 0, .int .i64 0] 23 (0, 0))) := (hb5.block _ (Array.getElem?_eq_some_iff.1 c1.out).1).trans c1.out; have hB5 : Hid (Below w.heap.size w w5) := hBA.out.trans (hb5.mono hBA.out.size); clear htx x12 hb5)
            | (refine load_wanted rfl 23 _ rfl _ rfl _ _ _ _ q12 Tryd.underlying23 rfl (need_info _ rfl) ?_)
            | (go_at_call 12; refine (hft _).mono ?_; rintro e w6 ⟨rfl, hb6⟩; have r12 := (hb6.block _ (Array.getElem?_eq_some_iff.1 q12).1).trans q12; have r1 := (hb6.block _ (Array.getElem?_eq_some_iff.1 q1.out).1).trans q1.out; have hB6 : Hid (Below w.heap.size w w6) := hB5.out.trans (hb6.mono hB5.out.size); clear hft q12 hb6)
            | (refine load_wanted rfl 23 _ rfl _ rfl _ _ _ _ r12 Tryd.underlying23 rfl (need_info _ rfl) ?_)
            | (refine wpList_store_row rfl 23 _ _ rfl _ #[.int .i64 a.x, .int .i64 a.y, .int .i64 a.z] rfl rfl _ _ r1 (need_info _ rfl) rfl (need_one _ _ _) ?_)
            | go_in)
          refine bodyPost_ret (results_NeedRead rfl (setRow_heap _ w.heap.size _ _ _ _ r1) rfl rfl) rfl ⟨rfl, below_row hB6.out (by omega)⟩
        | false =>
          rw [ho] at hft
          replace hft : ∀ w1, Calls Tryd.prog 12 #[(.agg #[.int .i64 a.x, .int .i64 a.y, .int .i64 a.z])] w1 fun e w' => e = .returned (.int .i64 4) ∧ Below w1.heap.size w1 w' := hft
          have e1 : rV (some a) = nz := by show (if okN a then a else nz) = nz; rw [ho]; rfl
          have e2 : rE (some a) = 4 := by show ce (okN a) = 4; rw [ho]; rfl
          have eV : V = nz := by rw [← HV.out, hf, e1]
          have eE : E = 4 := by rw [← HE.out, hf, e2]
          subst eV
          subst eE
          clear e1 e2 hf ht ho
          go_wp2_with (first
            | (refine load_wanted rfl 23 _ rfl _ rfl _ _ _ _ x12 Tryd.underlying23 rfl (need_info _ rfl) ?_)
            | (go_at_call 13; refine (htx _).mono ?_; rintro e w5 ⟨rfl, hb5⟩; have q12 := (hb5.block _ (Array.getElem?_eq_some_iff.1 x12).1).trans x12; have q1 : Hid (w5.heap[w.heap.size]? = some (.cells #[.int .i64 0, .int .i64 0, .int .i64 0] 23 (0, 0))) := (hb5.block _ (Array.getElem?_eq_some_iff.1 c1.out).1).trans c1.out; have hB5 : Hid (Below w.heap.size w w5) := hBA.out.trans (hb5.mono hBA.out.size); clear htx x12 hb5)
            | (refine load_wanted rfl 23 _ rfl _ rfl _ _ _ _ q12 Tryd.underlying23 rfl (need_info _ rfl) ?_)
            | (go_at_call 12; refine (hft _).mono ?_; rintro e w6 ⟨rfl, hb6⟩; have r12 := (hb6.block _ (Array.getElem?_eq_some_iff.1 q12).1).trans q12; have r1 := (hb6.block _ (Array.getElem?_eq_some_iff.1 q1.out).1).trans q1.out; have hB6 : Hid (Below w.heap.size w w6) := hB5.out.trans (hb6.mono hB5.out.size); clear hft q12 hb6)
            | (refine wpList_store_row rfl 23 _ _ rfl _ #[.int .i64 0, .int .i64 0, .int .i64 0] rfl rfl _ _ r1 (need_info _ rfl) rfl (need_one _ _ _) ?_)
            | go_in)
          refine bodyPost_ret (results_NeedRead rfl (setRow_heap _ w.heap.size _ _ _ _ r1) rfl rfl) rfl ⟨rfl, below_row hB6.out (by omega)⟩
      · have hf : fiN (some a) l = none := if_neg ht
        have hcmp : (txN a == s.toList) = false := by rw [hsL.out]; simpa using ht
        have eV : V = nz := by rw [← HV.out, hf]; rfl
        have eE : E = 3 := by rw [← HE.out, hf]; rfl
        subst eV
        subst eE
        clear hf ht hft
        go_wp2_with (first
          | (refine load_wanted rfl 23 _ rfl _ rfl _ _ _ _ x12 Tryd.underlying23 rfl (need_info _ rfl) ?_)
          | (go_at_call 13; refine (htx _).mono ?_; rintro e w5 ⟨rfl, hb5⟩; have q1 := (hb5.block _ (Array.getElem?_eq_some_iff.1 c1.out).1).trans c1.out; have hB5 : Hid (Below w.heap.size w w5) := hBA.out.trans (hb5.mono hBA.out.size); clear htx x12 hb5)
          | (refine wpList_store_row rfl 23 _ _ rfl _ #[.int .i64 0, .int .i64 0, .int .i64 0] rfl rfl _ _ q1 (need_info _ rfl) rfl (need_one _ _ _) ?_)
          | go_in)
        refine bodyPost_ret (results_NeedRead rfl (setRow_heap _ w.heap.size _ _ _ _ q1) rfl rfl) rfl ⟨rfl, below_row hB5.out (by omega)⟩
end Go.Proofs.YtmhidmocmolgfaaDoor
