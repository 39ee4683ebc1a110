/- Package need, walked: read, Read. -/
import Derived.Test.YtmhidmocmolgfaaDoorNrm
import Derived.Test.YtmhidmocmolgfaaDoorCuo
import Derived.Test.YtmhidmocmolgfaaDoorNdd
import Derived.Test.YtmhidmocmolgfaaDoorNtx
namespace Go.Proofs.YtmhidmocmolgfaaDoor
open Go.RowKit Ndm Txt
set_option linter.unusedSectionVars false
set_option linter.unusedVariables false

def oN (o : Option N3) : N3 := o.getD nz
theorem results_read {tmps : Array Value} {w : World} {g : Nat} {cs : Array Value} {v : Value} (hp : tmps.getD 2 undef = .pointer (some ⟨g, 0, none⟩)) (hg : w.heap[g]? = some (.cells cs 23 (0, 0))) (hcs : cs.size = 3) (h7 : tmps.getD 3 undef = v) : (results Tryd.f38 tmps).run Tryd.prog w = .ok (.tuple #[.agg cs, v]) w := by
  have hp' : tmps[2]?.getD undef = .pointer (some ⟨g, 0, none⟩) := by simpa using hp
  have h7' : tmps[3]?.getD undef = v := by simpa using h7
  simp [results, Tryd.results38, hp', h7', asAddr, run_loadVar_row w g _ 23 cs (0, 0) _ hg Tryd.underlying23 rfl (need_info cs hcs)]
theorem list_of (s : ByteArray) : s.toList = s.data.toList := ByteArray.toList_eq s

set_option maxHeartbeats 2000000 in
set_option maxRecDepth 100000 in
theorem read_dash (w : World) : Calls Tryd.prog 38 #[.string ⟨#[45]⟩] w fun e w' => e = .returned (.tuple #[.agg #[.int .i64 0, .int .i64 0, .int .i64 0], .bool true]) ∧ Below w.heap.size w w' := by
  have h1 : (w.alloc (.cells #[.int .i64 0, .int .i64 0, .int .i64 0] 23)).heap[w.heap.size]? = some (.cells #[.int .i64 0, .int .i64 0, .int .i64 0] 23 (0, 0)) := heap_alloc_new _ _
  have hB : Hid (Below w.heap.size w (w.alloc (.cells #[.int .i64 0, .int .i64 0, .int .i64 0] 23))) := (Below.refl _ _).alloc (Nat.le_refl _) _
  go_enter Tryd.func38, Tryd.ntmps38
  go_wp2_with (first
    | (refine wpList_store_row rfl 23 _ _ rfl _ #[.int .i64 0, .int .i64 0, .int .i64 0] rfl rfl _ _ h1 (need_info _ rfl) rfl (need_one _ _ _) ?_)
    | go_in)
  refine bodyPost_ret (results_read rfl (setRow_heap _ w.heap.size _ _ _ _ h1) rfl rfl) rfl ⟨rfl, below_row hB.out (by omega)⟩

theorem rdI_step (f k : Nat) (l : List UInt8) (a : N3) : (pl64 (Lib.cut (Lib.cut l [44]).1 [61]).2.1 = none → rdI (f + 1) k l a = none) ∧ ∀ n, pl64 (Lib.cut (Lib.cut l [44]).1 [61]).2.1 = some n → rdI (f + 1) k l a = if fnd k (Lib.cut (Lib.cut l [44]).1 [61]).1 = 3 ∨ n = 0 then none else
      if (Lib.cut l [44]).2.2 = true then rdI f (fnd k (Lib.cut (Lib.cut l [44]).1 [61]).1 + 1) (Lib.cut l [44]).2.1 (setN a (fnd k (Lib.cut (Lib.cut l [44]).1 [61]).1) n)
      else some (setN a (fnd k (Lib.cut (Lib.cut l [44]).1 [61]).1) n) := by
  constructor
  · intro h
    unfold rdI
    rw [h]
  · intro n h
    conv => lhs; unfold rdI
    rw [h]
def mMore (v : Value) : Nat := match v with
  | .bool true => 1
  | _ => 0
theorem cut_len : ∀ (l : List UInt8) (c : UInt8), (Lib.cut l [c]).1.length ≤ l.length ∧ (Lib.cut l [c]).2.1.length ≤ l.length
  | [], c => by rw [cut_nil]; simp
  | b :: l, c => by
    rw [cut_cons]
    split
    · simp
    · have := cut_len l c
      simp
      omega
theorem fnd_yes {k : Nat} {x : List UInt8} (h3 : k < 3) (h : nmB k = x) : fnd k x = k := by rw [← h]; exact fnd_at (Nat.le_refl _) h3
theorem fnd_no {k : Nat} {x : List UInt8} (h3 : k < 3) (h : nmB k ≠ x) : fnd k x = fnd (k + 1) x := by
  rcases (show k = 0 ∨ k = 1 ∨ k = 2 by omega) with rfl | rfl | rfl
  · unfold fnd
    rw [if_neg (fun e => h e.2), if_neg (c := 0 + 1 ≤ 0 ∧ _) (fun e => absurd e.1 (by omega))]
    simp
  · unfold fnd
    rw [if_neg (fun e => absurd e.1 (by omega)), if_neg (fun e => h e.2), if_neg (c := 1 + 1 ≤ 0 ∧ _) (fun e => absurd e.1 (by omega)), if_neg (c := 1 + 1 ≤ 1 ∧ _) (fun e => absurd e.1 (by omega))]
    simp
  · unfold fnd
    rw [if_neg (fun e => absurd e.1 (by omega)), if_neg (fun e => absurd e.1 (by omega)), if_neg (fun e => h e.2), if_neg (c := 2 + 1 ≤ 0 ∧ _) (fun e => absurd e.1 (by omega)), if_neg (c := 2 + 1 ≤ 1 ∧ _) (fun e => absurd e.1 (by omega)), if_neg (c := 2 + 1 ≤ 2 ∧ _) (fun e => absurd e.1 (by omega))]
theorem fnd_three (x : List UInt8) : fnd 3 x = 3 := by
  unfold fnd
  rw [if_neg (fun e => absurd e.1 (by omega)), if_neg (fun e => absurd e.1 (by omega)), if_neg (fun e => absurd e.1 (by omega))]

set_option maxHeartbeats 4000000 in
set_option maxRecDepth 100000 in
theorem read_loop (s : ByteArray) (w : World) (hM : TabM w) (hs : s.size ≤ maxLen) (hne : s.data.toList ≠ [45]) (R : Option N3) (HR : Hid (rdI 4 0 s.data.toList nz = R)) :
    Calls Tryd.prog 38 #[.string s] w fun e w' => e = .returned (.tuple #[.agg #[.int .i64 (oN R).x, .int .i64 (oN R).y, .int .i64 (oN R).z], .bool R.isSome]) ∧ Below w.heap.size w w' := by
  have hdash : (s.toList == [45]) = false := by rw [list_of]; simpa using hne
  have h1 : ((w.alloc (.cells #[.int .i64 0, .int .i64 0, .int .i64 0] 23)).alloc (.cells #[.int .i64 0, .int .i64 0, .int .i64 0] 61)).heap[w.heap.size]? = some (.cells #[.int .i64 0, .int .i64 0, .int .i64 0] 23 (0, 0)) := (Below.heap_alloc _ _ _ (by simp)).trans (heap_alloc_new _ _)
  have h2 : ((w.alloc (.cells #[.int .i64 0, .int .i64 0, .int .i64 0] 23)).alloc (.cells #[.int .i64 0, .int .i64 0, .int .i64 0] 61)).heap[w.heap.size + 1]? = some (.cells #[.int .i64 0, .int .i64 0, .int .i64 0] 61 (0, 0)) := by
    have h := heap_alloc_new (w.alloc (.cells #[.int .i64 0, .int .i64 0, .int .i64 0] 23)) (.cells #[.int .i64 0, .int .i64 0, .int .i64 0] 61)
    have e : (w.alloc (.cells #[.int .i64 0, .int .i64 0, .int .i64 0] 23)).heap.size = w.heap.size + 1 := by simp
    rw [e] at h
    exact h
  have hB : Hid (Below w.heap.size w ((w.alloc (.cells #[.int .i64 0, .int .i64 0, .int .i64 0] 23)).alloc (.cells #[.int .i64 0, .int .i64 0, .int .i64 0] 61))) := ((Below.refl _ _).alloc (Nat.le_refl _) _).alloc (by simp) _
  have hMb : Hid (∀ w1, Below w.heap.size w w1 → TabM w1) := fun w1 hb => hM.below hb (Nat.le_refl _)
  have h1H : Hid (_ = _) := h1
  have h2H : Hid (_ = _) := h2
  have hsH : Hid (s.size ≤ maxLen) := hs
  clear hM h1 h2 hs hne
  go_enter Tryd.func38, Tryd.ntmps38
  go_wp2
  go_loopw [0, 5, 6] (fun sv kv mv wr => ∃ (l : ByteArray) (k : Nat) (a : N3), sv = .string l ∧ (k = 0 ∧ kv = .int .i64 0 ∨ k = 1 ∧ kv = .int .i64 1 ∨ k = 2 ∧ kv = .int .i64 2 ∨ k = 3 ∧ kv = .int .i64 3) ∧ Hid (l.size ≤ maxLen) ∧ Hid (wr.heap[w.heap.size]? = some (.cells #[.int .i64 0, .int .i64 0, .int .i64 0] 23 (0, 0))) ∧ Hid (wr.heap[w.heap.size + 1]? = some (.cells #[.int .i64 a.x, .int .i64 a.y, .int .i64 a.z] 61 (0, 0))) ∧ Hid (Below w.heap.size w wr)
      ∧ (mv = .bool true ∧ (∃ f, 4 - k ≤ f ∧ Hid (rdI f k l.data.toList a = R)) ∨ mv = .bool false ∧ Hid (R = some a)))
    (fun _ kv mv _ => mMore mv * (8 - (intOf kv).toNat))
  case atStart => exact ⟨s, 0, nz, rfl, Or.inl ⟨rfl, rfl⟩, hsH, h1H, h2H, hB, Or.inl ⟨rfl, 4, Nat.le_refl _, HR⟩⟩
  case round =>
    obtain ⟨l, k, a, rfl, hk, hl, g1, g2, hbl, ⟨rfl, f, hf, hRl⟩ | ⟨rfl, hRl⟩⟩ := hrel
    · have hk3 : k ≤ 3 := by omega
      have hlen := cut_len l.data.toList 44
      have hc1 := fun w1 => cut_one l 44 w1 hl.out
      obtain ⟨f, rfl⟩ : ∃ f', f = f' + 1 := ⟨f - 1, by omega⟩
      have hRq : Hid (rdI (f + 1) k l.data.toList a = R) := hRl
      obtain ⟨it, hit⟩ : ∃ it : List UInt8, (Lib.cut l.data.toList [44]).1 = it := ⟨_, rfl⟩
      obtain ⟨rs, hrs⟩ : ∃ rs : List UInt8, (Lib.cut l.data.toList [44]).2.1 = rs := ⟨_, rfl⟩
      obtain ⟨mo, hmo⟩ : ∃ mo : Bool, (Lib.cut l.data.toList [44]).2.2 = mo := ⟨_, rfl⟩
      have hls : l.data.toList.length = l.size := by simp
      have hlo := hl.out
      rw [hit] at hc1 hlen
      rw [hrs] at hc1 hlen
      rw [hmo] at hc1
      have hc2 := fun w1 => cut_one ⟨it.toArray⟩ 61 w1 (show it.toArray.size ≤ maxLen by simp; omega)
      have hlen2 := cut_len it 61
      replace hc2 : ∀ w1, Calls Tryd.prog 69 #[.string ⟨it.toArray⟩, .string ⟨#[61]⟩] w1 fun e w' => e = .returned (.tuple #[.string ⟨(Lib.cut it [61]).1.toArray⟩, .string ⟨(Lib.cut it [61]).2.1.toArray⟩, .bool (Lib.cut it [61]).2.2]) ∧ ∃ n, w' = w1.drewN n := hc2
      obtain ⟨nm, hnm⟩ : ∃ nm : List UInt8, (Lib.cut it [61]).1 = nm := ⟨_, rfl⟩
      obtain ⟨dg, hdg⟩ : ∃ dg : List UInt8, (Lib.cut it [61]).2.1 = dg := ⟨_, rfl⟩
      obtain ⟨b3, hb3⟩ : ∃ b3 : Bool, (Lib.cut it [61]).2.2 = b3 := ⟨_, rfl⟩
      rw [hnm] at hc2 hlen2
      rw [hdg] at hc2 hlen2
      rw [hb3] at hc2
      have hpl := fun w1 => plain_any ⟨dg.toArray⟩ w1 (show dg.toArray.size ≤ maxLen by simp; omega)
      replace hpl : ∀ w1, Calls Tryd.prog 70 #[.string ⟨dg.toArray⟩] w1 fun e w' => e = .returned (.tuple #[.int .i64 ((pl64 dg).getD 0), .bool (pl64 dg).isSome]) ∧ w' = w1 := hpl
      have hR2 : Hid ((pl64 dg = none → R = none) ∧ ∀ n, pl64 dg = some n → R = if fnd k nm = 3 ∨ n = 0 then none else if mo = true then rdI f (fnd k nm + 1) rs (setN a (fnd k nm) n) else some (setN a (fnd k nm) n)) := by
        have h := rdI_step f k l.data.toList a
        rw [hit, hrs, hmo, hnm, hdg, hRq.out] at h
        exact h
      have hrsl : Hid (rs.length ≤ l.size) := by show _ ≤ _; omega
      clear hit hrs hmo hnm hdg hb3 hlen hlen2 hls hlo hRq hRl
      have hMr : Hid (TabM wr) := hMb.out wr hbl.out
      go_wp2_with (first
        | (go_at_call 69; first | (refine (hc1 _).mono ?_; rintro e w3 ⟨rfl, n1, rfl⟩; clear hc1) | (refine (hc2 _).mono ?_; rintro e w3 ⟨rfl, n2, rfl⟩; clear hc2))
        | go_in)
      obtain ⟨wz, hwz⟩ : ∃ wz, wr.drewN (n1 + n2) = wz := ⟨_, rfl⟩
      have G1 : Hid (wz.heap[w.heap.size]? = some (.cells #[.int .i64 0, .int .i64 0, .int .i64 0] 23 (0, 0))) := by rw [← hwz]; exact g1
      have G2 : Hid (wz.heap[w.heap.size + 1]? = some (.cells #[.int .i64 a.x, .int .i64 a.y, .int .i64 a.z] 61 (0, 0))) := by rw [← hwz]; exact g2
      have GB : Hid (Below w.heap.size w wz) := by rw [← hwz]; exact drewN_below hbl.out _
      have GM : Hid (TabM wz) := hMb.out wz GB.out
      rw [hwz]
      clear hwz g1 g2 hbl hMr
      go_loop [5] (fun kv => ∃ j : Nat, Hid (k ≤ j) ∧ Hid (fnd j nm = fnd k nm) ∧ (j = 0 ∧ kv = .int .i64 0 ∨ j = 1 ∧ kv = .int .i64 1 ∨ j = 2 ∧ kv = .int .i64 2 ∨ j = 3 ∧ kv = .int .i64 3)) (fun kv => 3 - (intOf kv).toNat)
      case atStart => exact ⟨k, Nat.le_refl _, rfl, hk⟩
      case round =>
        obtain ⟨j, hj, hfj, hk2⟩ := hrel
        rcases hk2 with ⟨rfl, rfl⟩ | ⟨rfl, rfl⟩ | ⟨rfl, rfl⟩ | ⟨rfl, rfl⟩
        · have hc : wz.cell? ⟨0, 0, none⟩ = some (.string ⟨#[99, 112, 117]⟩) := GM.out 0 (by omega)
          by_cases hq : nmB 0 = nm
          · have hi : fnd k nm = 0 := by rw [← hfj.out]; exact fnd_yes (by omega) hq
            have hq' : ([99, 112, 117] : List UInt8) = nm := hq
            have hb : (([99, 112, 117] : List UInt8) == nm) = true := by simpa using hq'
            have hz0 : wz.cell? ⟨w.heap.size + 1, 0, none⟩ = some (.int .i64 (getN a 0)) := (cell_of_row _ _ 0 _ _ _ G2.out).trans rfl
            have hiH : Hid (fnd k nm = 0) := hi
            clear hi hq hq'
            cases hpd : pl64 dg with
            | none =>
              have hRn : R = none := hR2.out.1 hpd
              subst hRn
              rw [hpd] at hpl
              replace hpl : ∀ w1, Calls Tryd.prog 70 #[.string ⟨dg.toArray⟩] w1 fun e w' => e = .returned (.tuple #[.int .i64 0, .bool false]) ∧ w' = w1 := hpl
              have gg1 := G1.out
              clear hpd hk3 hk hf hz0
              go_wp2_with (first
                | (go_at_call 70; refine (hpl _).mono ?_; rintro e w5 ⟨rfl, rfl⟩; clear hpl)
                | (refine wpList_store_row rfl 23 _ _ rfl _ #[.int .i64 0, .int .i64 0, .int .i64 0] rfl rfl _ _ gg1 (need_info _ rfl) rfl (need_one _ _ _) ?_)
                | go_in)
              refine bodyPost_ret (results_read rfl (setRow_heap _ w.heap.size _ _ _ _ gg1) rfl rfl) rfl ⟨rfl, below_row GB.out (by omega)⟩
            | some n =>
              have hRs := hR2.out.2 n hpd
              rw [hiH.out] at hRs
              obtain ⟨n0, n1⟩ := (itoa_pl64 hpd).2
              rw [hpd] at hpl
              replace hpl : ∀ w1, Calls Tryd.prog 70 #[.string ⟨dg.toArray⟩] w1 fun e w' => e = .returned (.tuple #[.int .i64 n, .bool true]) ∧ w' = w1 := hpl
              have gg1 := G1.out
              by_cases hn0 : n = 0
              · rw [if_pos (Or.inr hn0)] at hRs
                subst hRs
                clear n0 n1
                subst hn0
                clear hpd hk3 hk hf hz0
                go_wp2_with (first
                  | (go_at_call 70; refine (hpl _).mono ?_; rintro e w5 ⟨rfl, rfl⟩; clear hpl)
                  | (refine wpList_store_row rfl 23 _ _ rfl _ #[.int .i64 0, .int .i64 0, .int .i64 0] rfl rfl _ _ gg1 (need_info _ rfl) rfl (need_one _ _ _) ?_)
                  | go_in)
                refine bodyPost_ret (results_read rfl (setRow_heap _ w.heap.size _ _ _ _ gg1) rfl rfl) rfl ⟨rfl, below_row GB.out (by omega)⟩
              · rw [if_neg (by omega)] at hRs
                have hRH : Hid (R = if mo = true then rdI f (0 + 1) rs (setN a 0 n) else some (setN a 0 n)) := hRs
                have hnb : (n == 0) = false := by simpa using hn0
                have hkf : Hid (4 - k ≤ f + 1 ∧ k ≤ 0) := ⟨hf, hj.out⟩
                have hkH : Hid (k = 0 ∧ u5 = .int .i64 0 ∨ k = 1 ∧ u5 = .int .i64 1 ∨ k = 2 ∧ u5 = .int .i64 2 ∨ k = 3 ∧ u5 = .int .i64 3) := hk
                have hfz : wz.frozen? ⟨w.heap.size + 1, 0, none⟩ = false := by simp [World.frozen?, G2.out]
                clear hpd hk3 hf hRs hn0 gg1 hk
                go_wp2_with (first
                  | (go_at_call 70; refine (hpl _).mono ?_; rintro e w5 ⟨rfl, rfl⟩; clear hpl)
                  | go_in)
                refine ⟨⟨⟨rs.toArray⟩, 1, setN a 0 n, rfl, Or.inr (Or.inl ⟨rfl, by first | rfl | simp⟩), ?_, ?_, ?_, ?_, ?_⟩, ?_⟩
                · show rs.toArray.size ≤ maxLen
                  have h1 := hrsl.out
                  have h2 := hl.out
                  simp
                  omega
                · exact (Below.heap_setCell _ _ _ _ (by show w.heap.size ≠ w.heap.size + 1; omega)).trans G1.out
                · have := heap_setCell_same _ (w.heap.size + 1) 0 _ _ (.int .i64 n) G2.out
                  exact this.trans rfl
                · exact GB.out.setCell (by show w.heap.size ≤ w.heap.size + 1; omega) _
                · cases hmo : mo with
                  | false =>
                    refine Or.inr ⟨rfl, ?_⟩
                    show _ = _
                    rw [hRH.out, hmo]
                    exact if_neg (by simp)
                  | true =>
                    refine Or.inl ⟨rfl, f, by have := hkf.out; omega, ?_⟩
                    show _ = _
                    rw [hRH.out, hmo]
                    exact (if_pos rfl).symm
                · have h1 := hkH.out
                  have h2 := hkf.out
                  have h3 : mMore (.bool mo) ≤ 1 := by cases mo <;> decide
                  have h4 : intOf u5 = (k : Int) := by
                    rcases h1 with ⟨rfl, rfl⟩ | ⟨rfl, rfl⟩ | ⟨rfl, rfl⟩ | ⟨rfl, rfl⟩ <;> rfl
                  have h5 : mMore (.bool true) = 1 := rfl
                  rw [h4, h5]
                  show mMore (.bool mo) * (8 - 1) < 1 * (8 - (k : Int).toNat)
                  rcases (show mMore (.bool mo) = 0 ∨ mMore (.bool mo) = 1 by omega) with h6 | h6 <;> rw [h6] <;> omega
          · have hfn : Hid (fnd 1 nm = fnd k nm) := by show _ = _; rw [← hfj.out]; exact (fnd_no (by omega) hq).symm
            have hq' : ¬ ([99, 112, 117] : List UInt8) = nm := hq
            have hb : (([99, 112, 117] : List UInt8) == nm) = false := by simpa using hq'
            clear hq hq' hfj
            go_wp2
            refine ⟨⟨1, Nat.le_trans hj.out (by omega), hfn, Or.inr (Or.inl ⟨rfl, by first | rfl | simp⟩)⟩, ?_⟩
            simp [intOf]
        · have hc : wz.cell? ⟨0, 1, none⟩ = some (.string ⟨#[109, 101, 109]⟩) := GM.out 1 (by omega)
          by_cases hq : nmB 1 = nm
          · have hi : fnd k nm = 1 := by rw [← hfj.out]; exact fnd_yes (by omega) hq
            have hq' : ([109, 101, 109] : List UInt8) = nm := hq
            have hb : (([109, 101, 109] : List UInt8) == nm) = true := by simpa using hq'
            have hz0 : wz.cell? ⟨w.heap.size + 1, 1, none⟩ = some (.int .i64 (getN a 1)) := (cell_of_row _ _ 1 _ _ _ G2.out).trans rfl
            have hiH : Hid (fnd k nm = 1) := hi
            clear hi hq hq'
            cases hpd : pl64 dg with
            | none =>
              have hRn : R = none := hR2.out.1 hpd
              subst hRn
              rw [hpd] at hpl
              replace hpl : ∀ w1, Calls Tryd.prog 70 #[.string ⟨dg.toArray⟩] w1 fun e w' => e = .returned (.tuple #[.int .i64 0, .bool false]) ∧ w' = w1 := hpl
              have gg1 := G1.out
              clear hpd hk3 hk hf hz0
              go_wp2_with (first
                | (go_at_call 70; refine (hpl _).mono ?_; rintro e w5 ⟨rfl, rfl⟩; clear hpl)
                | (refine wpList_store_row rfl 23 _ _ rfl _ #[.int .i64 0, .int .i64 0, .int .i64 0] rfl rfl _ _ gg1 (need_info _ rfl) rfl (need_one _ _ _) ?_)
                | go_in)
              refine bodyPost_ret (results_read rfl (setRow_heap _ w.heap.size _ _ _ _ gg1) rfl rfl) rfl ⟨rfl, below_row GB.out (by omega)⟩
            | some n =>
              have hRs := hR2.out.2 n hpd
              rw [hiH.out] at hRs
              obtain ⟨n0, n1⟩ := (itoa_pl64 hpd).2
              rw [hpd] at hpl
              replace hpl : ∀ w1, Calls Tryd.prog 70 #[.string ⟨dg.toArray⟩] w1 fun e w' => e = .returned (.tuple #[.int .i64 n, .bool true]) ∧ w' = w1 := hpl
              have gg1 := G1.out
              by_cases hn0 : n = 0
              · rw [if_pos (Or.inr hn0)] at hRs
                subst hRs
                clear n0 n1
                subst hn0
                clear hpd hk3 hk hf hz0
                go_wp2_with (first
                  | (go_at_call 70; refine (hpl _).mono ?_; rintro e w5 ⟨rfl, rfl⟩; clear hpl)
                  | (refine wpList_store_row rfl 23 _ _ rfl _ #[.int .i64 0, .int .i64 0, .int .i64 0] rfl rfl _ _ gg1 (need_info _ rfl) rfl (need_one _ _ _) ?_)
                  | go_in)
                refine bodyPost_ret (results_read rfl (setRow_heap _ w.heap.size _ _ _ _ gg1) rfl rfl) rfl ⟨rfl, below_row GB.out (by omega)⟩
              · rw [if_neg (by omega)] at hRs
                have hRH : Hid (R = if mo = true then rdI f (1 + 1) rs (setN a 1 n) else some (setN a 1 n)) := hRs
                have hnb : (n == 0) = false := by simpa using hn0
                have hkf : Hid (4 - k ≤ f + 1 ∧ k ≤ 1) := ⟨hf, hj.out⟩
                have hkH : Hid (k = 0 ∧ u5 = .int .i64 0 ∨ k = 1 ∧ u5 = .int .i64 1 ∨ k = 2 ∧ u5 = .int .i64 2 ∨ k = 3 ∧ u5 = .int .i64 3) := hk
                have hfz : wz.frozen? ⟨w.heap.size + 1, 1, none⟩ = false := by simp [World.frozen?, G2.out]
                clear hpd hk3 hf hRs hn0 gg1 hk
                go_wp2_with (first
                  | (go_at_call 70; refine (hpl _).mono ?_; rintro e w5 ⟨rfl, rfl⟩; clear hpl)
                  | go_in)
                refine ⟨⟨⟨rs.toArray⟩, 2, setN a 1 n, rfl, Or.inr (Or.inr (Or.inl ⟨rfl, by first | rfl | simp⟩)), ?_, ?_, ?_, ?_, ?_⟩, ?_⟩
                · show rs.toArray.size ≤ maxLen
                  have h1 := hrsl.out
                  have h2 := hl.out
                  simp
                  omega
                · exact (Below.heap_setCell _ _ _ _ (by show w.heap.size ≠ w.heap.size + 1; omega)).trans G1.out
                · have := heap_setCell_same _ (w.heap.size + 1) 1 _ _ (.int .i64 n) G2.out
                  exact this.trans rfl
                · exact GB.out.setCell (by show w.heap.size ≤ w.heap.size + 1; omega) _
                · cases hmo : mo with
                  | false =>
                    refine Or.inr ⟨rfl, ?_⟩
                    show _ = _
                    rw [hRH.out, hmo]
                    exact if_neg (by simp)
                  | true =>
                    refine Or.inl ⟨rfl, f, by have := hkf.out; omega, ?_⟩
                    show _ = _
                    rw [hRH.out, hmo]
                    exact (if_pos rfl).symm
                · have h1 := hkH.out
                  have h2 := hkf.out
                  have h3 : mMore (.bool mo) ≤ 1 := by cases mo <;> decide
                  have h4 : intOf u5 = (k : Int) := by
                    rcases h1 with ⟨rfl, rfl⟩ | ⟨rfl, rfl⟩ | ⟨rfl, rfl⟩ | ⟨rfl, rfl⟩ <;> rfl
                  have h5 : mMore (.bool true) = 1 := rfl
                  rw [h4, h5]
                  show mMore (.bool mo) * (8 - 2) < 1 * (8 - (k : Int).toNat)
                  rcases (show mMore (.bool mo) = 0 ∨ mMore (.bool mo) = 1 by omega) with h6 | h6 <;> rw [h6] <;> omega
          · have hfn : Hid (fnd 2 nm = fnd k nm) := by show _ = _; rw [← hfj.out]; exact (fnd_no (by omega) hq).symm
            have hq' : ¬ ([109, 101, 109] : List UInt8) = nm := hq
            have hb : (([109, 101, 109] : List UInt8) == nm) = false := by simpa using hq'
            clear hq hq' hfj
            go_wp2
            refine ⟨⟨2, Nat.le_trans hj.out (by omega), hfn, Or.inr (Or.inr (Or.inl ⟨rfl, by first | rfl | simp⟩))⟩, ?_⟩
            simp [intOf]
        · have hc : wz.cell? ⟨0, 2, none⟩ = some (.string ⟨#[103, 112, 117]⟩) := GM.out 2 (by omega)
          by_cases hq : nmB 2 = nm
          · have hi : fnd k nm = 2 := by rw [← hfj.out]; exact fnd_yes (by omega) hq
            have hq' : ([103, 112, 117] : List UInt8) = nm := hq
            have hb : (([103, 112, 117] : List UInt8) == nm) = true := by simpa using hq'
            have hz0 : wz.cell? ⟨w.heap.size + 1, 2, none⟩ = some (.int .i64 (getN a 2)) := (cell_of_row _ _ 2 _ _ _ G2.out).trans rfl
            have hiH : Hid (fnd k nm = 2) := hi
            clear hi hq hq'
            cases hpd : pl64 dg with
            | none =>
              have hRn : R = none := hR2.out.1 hpd
              subst hRn
              rw [hpd] at hpl
              replace hpl : ∀ w1, Calls Tryd.prog 70 #[.string ⟨dg.toArray⟩] w1 fun e w' => e = .returned (.tuple #[.int .i64 0, .bool false]) ∧ w' = w1 := hpl
              have gg1 := G1.out
              clear hpd hk3 hk hf hz0
              go_wp2_with (first
                | (go_at_call 70; refine (hpl _).mono ?_; rintro e w5 ⟨rfl, rfl⟩; clear hpl)
                | (refine wpList_store_row rfl 23 _ _ rfl _ #[.int .i64 0, .int .i64 0, .int .i64 0] rfl rfl _ _ gg1 (need_info _ rfl) rfl (need_one _ _ _) ?_)
                | go_in)
              refine bodyPost_ret (results_read rfl (setRow_heap _ w.heap.size _ _ _ _ gg1) rfl rfl) rfl ⟨rfl, below_row GB.out (by omega)⟩
            | some n =>
              have hRs := hR2.out.2 n hpd
              rw [hiH.out] at hRs
              obtain ⟨n0, n1⟩ := (itoa_pl64 hpd).2
              rw [hpd] at hpl
              replace hpl : ∀ w1, Calls Tryd.prog 70 #[.string ⟨dg.toArray⟩] w1 fun e w' => e = .returned (.tuple #[.int .i64 n, .bool true]) ∧ w' = w1 := hpl
              have gg1 := G1.out
              by_cases hn0 : n = 0
              · rw [if_pos (Or.inr hn0)] at hRs
                subst hRs
                clear n0 n1
                subst hn0
                clear hpd hk3 hk hf hz0
                go_wp2_with (first
                  | (go_at_call 70; refine (hpl _).mono ?_; rintro e w5 ⟨rfl, rfl⟩; clear hpl)
                  | (refine wpList_store_row rfl 23 _ _ rfl _ #[.int .i64 0, .int .i64 0, .int .i64 0] rfl rfl _ _ gg1 (need_info _ rfl) rfl (need_one _ _ _) ?_)
                  | go_in)
                refine bodyPost_ret (results_read rfl (setRow_heap _ w.heap.size _ _ _ _ gg1) rfl rfl) rfl ⟨rfl, below_row GB.out (by omega)⟩
              · rw [if_neg (by omega)] at hRs
                have hRH : Hid (R = if mo = true then rdI f (2 + 1) rs (setN a 2 n) else some (setN a 2 n)) := hRs
                have hnb : (n == 0) = false := by simpa using hn0
                have hkf : Hid (4 - k ≤ f + 1 ∧ k ≤ 2) := ⟨hf, hj.out⟩
                have hkH : Hid (k = 0 ∧ u5 = .int .i64 0 ∨ k = 1 ∧ u5 = .int .i64 1 ∨ k = 2 ∧ u5 = .int .i64 2 ∨ k = 3 ∧ u5 = .int .i64 3) := hk
                have hfz : wz.frozen? ⟨w.heap.size + 1, 2, none⟩ = false := by simp [World.frozen?, G2.out]
                clear hpd hk3 hf hRs hn0 gg1 hk
                go_wp2_with (first
                  | (go_at_call 70; refine (hpl _).mono ?_; rintro e w5 ⟨rfl, rfl⟩; clear hpl)
                  | go_in)
                refine ⟨⟨⟨rs.toArray⟩, 3, setN a 2 n, rfl, Or.inr (Or.inr (Or.inr ⟨rfl, by first | rfl | simp⟩)), ?_, ?_, ?_, ?_, ?_⟩, ?_⟩
                · show rs.toArray.size ≤ maxLen
                  have h1 := hrsl.out
                  have h2 := hl.out
                  simp
                  omega
                · exact (Below.heap_setCell _ _ _ _ (by show w.heap.size ≠ w.heap.size + 1; omega)).trans G1.out
                · have := heap_setCell_same _ (w.heap.size + 1) 2 _ _ (.int .i64 n) G2.out
                  exact this.trans rfl
                · exact GB.out.setCell (by show w.heap.size ≤ w.heap.size + 1; omega) _
                · cases hmo : mo with
                  | false =>
                    refine Or.inr ⟨rfl, ?_⟩
                    show _ = _
                    rw [hRH.out, hmo]
                    exact if_neg (by simp)
                  | true =>
                    refine Or.inl ⟨rfl, f, by have := hkf.out; omega, ?_⟩
                    show _ = _
                    rw [hRH.out, hmo]
                    exact (if_pos rfl).symm
                · have h1 := hkH.out
                  have h2 := hkf.out
                  have h3 : mMore (.bool mo) ≤ 1 := by cases mo <;> decide
                  have h4 : intOf u5 = (k : Int) := by
                    rcases h1 with ⟨rfl, rfl⟩ | ⟨rfl, rfl⟩ | ⟨rfl, rfl⟩ | ⟨rfl, rfl⟩ <;> rfl
                  have h5 : mMore (.bool true) = 1 := rfl
                  rw [h4, h5]
                  show mMore (.bool mo) * (8 - 3) < 1 * (8 - (k : Int).toNat)
                  rcases (show mMore (.bool mo) = 0 ∨ mMore (.bool mo) = 1 by omega) with h6 | h6 <;> rw [h6] <;> omega
          · have hfn : Hid (fnd 3 nm = fnd k nm) := by show _ = _; rw [← hfj.out]; exact (fnd_no (by omega) hq).symm
            have hq' : ¬ ([103, 112, 117] : List UInt8) = nm := hq
            have hb : (([103, 112, 117] : List UInt8) == nm) = false := by simpa using hq'
            clear hq hq' hfj
            go_wp2
            refine ⟨⟨3, Nat.le_trans hj.out (by omega), hfn, Or.inr (Or.inr (Or.inr ⟨rfl, by first | rfl | simp⟩))⟩, ?_⟩
            simp [intOf]
        · have hi3 : fnd k nm = 3 := by rw [← hfj.out]; exact fnd_three nm
          have hRn : R = none := by
            cases hpd : pl64 dg with
            | none => exact hR2.out.1 hpd
            | some n => rw [hR2.out.2 n hpd, if_pos (Or.inl hi3)]
          subst hRn
          have gg1 := G1.out
          clear hi3 hk3 hk hf
          go_wp2_with (first
            | (go_at_call 70; refine (hpl _).mono ?_; rintro e w5 ⟨rfl, rfl⟩; clear hpl)
            | (refine wpList_store_row rfl 23 _ _ rfl _ #[.int .i64 0, .int .i64 0, .int .i64 0] rfl rfl _ _ gg1 (need_info _ rfl) rfl (need_one _ _ _) ?_)
            | go_in)
          refine bodyPost_ret (results_read rfl (setRow_heap _ w.heap.size _ _ _ _ gg1) rfl rfl) rfl ⟨rfl, below_row GB.out (by omega)⟩
    · obtain rfl : R = some a := hRl.out
      have z0 : wr.cell? ⟨w.heap.size + 1, 0, none⟩ = some (.int .i64 a.x) := (cell_of_row _ _ 0 _ _ _ g2.out).trans rfl
      have z1 : wr.cell? ⟨w.heap.size + 1, 1, none⟩ = some (.int .i64 a.y) := (cell_of_row _ _ 1 _ _ _ g2.out).trans rfl
      have z2 : wr.cell? ⟨w.heap.size + 1, 2, none⟩ = some (.int .i64 a.z) := (cell_of_row _ _ 2 _ _ _ g2.out).trans rfl
      have gg1 := g1.out
      clear hk
      go_wp2_with (first
        | (refine wpList_store_row rfl 23 _ _ rfl _ #[.int .i64 a.x, .int .i64 a.y, .int .i64 a.z] rfl rfl _ _ gg1 (need_info _ rfl) rfl (need_one _ _ _) ?_)
        | go_in)
      refine bodyPost_ret (results_read rfl (setRow_heap _ w.heap.size _ _ _ _ gg1) rfl rfl) rfl ⟨rfl, below_row hbl.out (by omega)⟩
end Go.Proofs.YtmhidmocmolgfaaDoor
