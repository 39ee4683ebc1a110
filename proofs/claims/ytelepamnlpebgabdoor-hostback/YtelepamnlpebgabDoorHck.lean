/- host.free, checkHost, Check: walked. -/
import Derived.Test.YtelepamnlpebgabDoorHcl
import Derived.Test.YtelepamnlpebgabDoorTkc
namespace Go.Proofs.YtelepamnlpebgabDoor
open Go.RowKit Go.Shelf Akm Ndm
set_option linter.unusedSectionVars false
set_option linter.unusedVariables false

theorem host_info (cs : Array Value) (h : cs.size = 8) : (Tryd.prog.info? 30).map (·.size) = some cs.size := by rw [h]; kernel_rfl
theorem host_one (nm : ByteArray) (pl : Option Addr) (ln cl : Nat) (hs us : N3) : (#[.string nm, .slice pl ln cl, .int .i64 hs.x, .int .i64 hs.y, .int .i64 hs.z, .int .i64 us.x, .int .i64 us.y, .int .i64 us.z] : Array Value).all (·.oneCell') = true := by simp [Value.oneCell']

set_option maxHeartbeats 2000000 in
set_option maxRecDepth 100000 in
theorem hk1_any (nm : ByteArray) (pl : Option Addr) (ln cl : Nat) (hs us : N3) (gx : Nat) (nmo : ByteArray) (plo : Option Addr) (lno clo : Nat) (hso uso : N3) (w : World) (hb : w.heap[gx]? = some (.cells #[.string nm, .slice pl ln cl, .int .i64 hs.x, .int .i64 hs.y, .int .i64 hs.z, .int .i64 us.x, .int .i64 us.y, .int .i64 us.z] 30 (0, 0))) : Calls Tryd.prog 72 #[.agg #[.string nmo, .slice plo lno clo, .int .i64 hso.x, .int .i64 hso.y, .int .i64 hso.z, .int .i64 uso.x, .int .i64 uso.y, .int .i64 uso.z], .pointer (some ⟨gx, 0, none⟩)] w fun e w' => e = .returned (.bool (kqB nm nmo)) ∧ Below w.heap.size w w' := by
  have hbA : Below w.heap.size w (w.alloc (.cells #[.string nmo, .slice plo lno clo, .int .i64 hso.x, .int .i64 hso.y, .int .i64 hso.z, .int .i64 uso.x, .int .i64 uso.y, .int .i64 uso.z] 30)) := (Below.refl _ _).alloc (Nat.le_refl _) _
  have hbAH : Hid (Below w.heap.size w (w.alloc (.cells #[.string nmo, .slice plo lno clo, .int .i64 hso.x, .int .i64 hso.y, .int .i64 hso.z, .int .i64 uso.x, .int .i64 uso.y, .int .i64 uso.z] 30))) := hbA
  have g2 := (hbA.block gx (Array.getElem?_eq_some_iff.1 hb).1).trans hb
  have z0 : (w.alloc (.cells #[.string nmo, .slice plo lno clo, .int .i64 hso.x, .int .i64 hso.y, .int .i64 hso.z, .int .i64 uso.x, .int .i64 uso.y, .int .i64 uso.z] 30)).cell? ⟨gx, 0, none⟩ = some (.string nm) := (cell_of_row _ _ 0 _ _ _ g2).trans rfl
  unfold kqB
  clear hb hbA g2
  rcases Bool.eq_false_or_eq_true (nmo.toList == nm.toList) with b1 | b1
  all_goals
    rw [b1]
    go_enter Tryd.func72, Tryd.ntmps72
    go_wp2
    go_ret
    exact ⟨by first | rfl | simp, hbAH.out⟩

theorem anyH_snoc (l : List Ht) (q : Ht → Bool) {j : Nat} {x : Ht} (hx : l[j]? = some x) : (l.take (j + 1)).any q = ((l.take j).any q || q x) := by
  have hj := (List.getElem?_eq_some_iff.1 hx).1
  rw [List.take_succ_eq_append_getElem hj, List.any_append, (List.getElem?_eq_some_iff.1 hx).2]
  simp
theorem anyH_take {l : List Ht} {q : Ht → Bool} {j : Nat} (h : (l.take j).any q = true) : l.any q = true := by
  rw [List.any_eq_true] at h ⊢
  obtain ⟨x, hx, hq⟩ := h
  exact ⟨x, List.mem_of_mem_take hx, hq⟩

set_option maxHeartbeats 4000000 in
set_option maxRecDepth 100000 in
theorem indexH_any (nm : ByteArray) (pl : Option Addr) (ln cl : Nat) (hs us : N3) (gx : Nat) (p : Option Addr) (l : List Ht) (n c : Nat) (hn : l.length = n) (hni : (n : Int) ≤ 9223372036854775807) (w : World) (hb : w.heap[gx]? = some (.cells #[.string nm, .slice pl ln cl, .int .i64 hs.x, .int .i64 hs.y, .int .i64 hs.z, .int .i64 us.x, .int .i64 us.y, .int .i64 us.z] 30 (0, 0))) (hL : Hsts w p l) :
    Calls Tryd.prog 88 #[.slice p n c, .func (.func 72) #[] #[.pointer (some ⟨gx, 0, none⟩)]] w fun e w' => (∃ r : Int, e = .returned (.int .i64 r) ∧ Hid (decide (0 ≤ r) = l.any fun x => kqB nm x.nm)) ∧ Below w.heap.size w w' := by
  have hLH : Hid (Hsts w p l) := hL
  have hbH : Hid (w.heap[gx]? = some (.cells #[.string nm, .slice pl ln cl, .int .i64 hs.x, .int .i64 hs.y, .int .i64 hs.z, .int .i64 us.x, .int .i64 us.y, .int .i64 us.z] 30 (0, 0))) := hb
  have hnH : Hid (l.length = n) := hn
  clear hL hb hn
  go_enter Tryd.func88, Tryd.ntmps88
  go_wp2
  go_loopw [8] (fun iv wr => ∃ j : Nat, iv = .int .i64 j ∧ j ≤ n ∧ Hid (((l.take j).any fun x => kqB nm x.nm) = false) ∧ Hid (Below w.heap.size w wr)) (fun iv _ => n - (intOf iv).toNat)
  case atStart => exact ⟨0, rfl, Nat.zero_le _, rfl, Below.refl _ _⟩
  case round =>
    obtain ⟨j, rfl, hj, hany, hbl⟩ := hrel
    by_cases hjl : j < n
    · obtain ⟨x, hx⟩ : ∃ x, l[j]? = some x := ⟨l[j]'(by rw [hnH.out]; exact hjl), List.getElem?_eq_getElem _⟩
      obtain ⟨g, o, rfl, hg, hc⟩ := hLH.out.resolve_left (fun e => by have := hnH.out; rw [e] at this; simp at this; omega)
      obtain ⟨plo, clo, hc8, _, _⟩ := hc j x hx
      obtain ⟨⟨q0, q1⟩, ⟨q2, q3, q4⟩, ⟨q5, q6, q7⟩⟩ := hc8.below hbl.out hg
      have hbx := (hbl.out.block gx (Array.getElem?_eq_some_iff.1 hbH.out).1).trans hbH.out
      obtain ⟨nmo, Lo, hso, uso⟩ := x
      obtain ⟨lno, hlno⟩ : ∃ m, Lo.length = m := ⟨_, rfl⟩
      simp only at q0 q1 q2 q3 q4 q5 q6 q7
      rw [hlno] at q1
      have hcall := hk1_any nm pl ln cl hs us gx nmo plo lno clo hso uso wr hbx
      have hsn : Hid (((l.take (j + 1)).any fun x => kqB nm x.nm) = kqB nm nmo) := by show _ = _; rw [anyH_snoc l _ hx, hany.out]; rfl
      have hat : Hid (kqB nm nmo = true → (l.any fun x => kqB nm x.nm) = true) := fun h => anyH_take (j := j + 1) (by rw [hsn.out]; exact h)
      generalize kqB nm nmo = b at *
      have hjH : Hid (j < n) := hjl
      have hlt : (j : Int) < (n : Int) := by omega
      clear hx hc hbx hc8 hlno hj hjl
      cases b with
      | true =>
        go_wp2_with (first
          | (go_at_call 72; refine hcall.mono ?_; rintro e w5 ⟨rfl, hb5⟩; clear hcall)
          | go_in)
        go_ret
        exact ⟨⟨(j : Int), rfl, by show decide _ = _; rw [show (l.any fun x => kqB nm x.nm) = true by first | exact hat.out rfl | exact hat.out trivial | exact hat.out]; exact decide_eq_true (by omega)⟩, hbl.out.trans (hb5.mono hbl.out.size)⟩
      | false =>
        go_wp2_with (first
          | (go_at_call 72; refine hcall.mono ?_; rintro e w5 ⟨rfl, hb5⟩; clear hcall)
          | go_in)
        refine ⟨⟨j + 1, by first | rfl | simp, hjH.out, hsn, hbl.out.trans (hb5.mono hbl.out.size)⟩, ?_⟩
        have := hjH.out
        simp [intOf]
        omega
    · have hall : (l.any fun x => kqB nm x.nm) = false := by
        have := hany.out
        rw [List.take_of_length_le (by rw [hnH.out]; omega)] at this
        exact this
      have hlt : ¬ (j : Int) < (n : Int) := by omega
      have hallH : Hid ((l.any fun x => kqB nm x.nm) = false) := hall
      clear hall
      go_wp2
      go_ret
      exact ⟨⟨-1, rfl, by show decide _ = _; rw [hallH.out]; rfl⟩, hbl.out⟩

set_option maxHeartbeats 1000000 in
set_option maxRecDepth 100000 in
theorem containsH_any (nm : ByteArray) (pl : Option Addr) (ln cl : Nat) (hs us : N3) (gx : Nat) (p : Option Addr) (l : List Ht) (n c : Nat) (hn : l.length = n) (hni : (n : Int) ≤ 9223372036854775807) (w : World) (hb : w.heap[gx]? = some (.cells #[.string nm, .slice pl ln cl, .int .i64 hs.x, .int .i64 hs.y, .int .i64 hs.z, .int .i64 us.x, .int .i64 us.y, .int .i64 us.z] 30 (0, 0))) (hL : Hsts w p l) (r0 : Bool) (hr0 : Hid ((l.any fun x => kqB nm x.nm) = r0)) :
    Calls Tryd.prog 71 #[.slice p n c, .func (.func 72) #[] #[.pointer (some ⟨gx, 0, none⟩)]] w fun e w' => e = .returned (.bool r0) ∧ Below w.heap.size w w' := by
  have hix := indexH_any nm pl ln cl hs us gx p l n c hn hni w hb hL
  clear hn hni hb hL
  go_enter Tryd.func71, Tryd.ntmps71
  go_wp2_with (first
    | (go_at_call 88; refine hix.mono ?_; rintro e w3 ⟨⟨r, rfl, hr⟩, hb3⟩; clear hix)
    | go_in)
  go_ret
  exact ⟨ret_bb (by rw [← hr0.out]; exact hr.out), hb3⟩

theorem results_free {tmps : Array Value} {w : World} {g : Nat} {cs : Array Value} {v : Value} (hp : tmps.getD 2 undef = .pointer (some ⟨g, 0, none⟩)) (hg : w.heap[g]? = some (.cells cs 27 (0, 0))) (hcs : cs.size = 3) (h3 : tmps.getD 3 undef = v) : (results Tryd.f34 tmps).run Tryd.prog w = .ok (.tuple #[.agg cs, v]) w := by
  have hp' : tmps[2]?.getD undef = .pointer (some ⟨g, 0, none⟩) := by simpa using hp
  have h3' : tmps[3]?.getD undef = v := by simpa using h3
  simp [results, Tryd.results34, hp', h3', asAddr, run_loadVar_row w g 27 27 cs (0, 0) _ hg Tryd.underlying27 rfl (need_info _ hcs)]

set_option maxHeartbeats 2000000 in
set_option maxRecDepth 100000 in
theorem free_any (nm : ByteArray) (pl : Option Addr) (ln cl : Nat) (hs us : N3) (w : World) (R : N3) (E : Int) (hR : sR hs us = R) (hE : sE hs us = E) : Calls Tryd.prog 34 #[.agg #[.string nm, .slice pl ln cl, .int .i64 hs.x, .int .i64 hs.y, .int .i64 hs.z, .int .i64 us.x, .int .i64 us.y, .int .i64 us.z]] w fun e w' => e = .returned (.tuple #[.agg #[.int .i64 R.x, .int .i64 R.y, .int .i64 R.z], .int .i64 E]) ∧ Below w.heap.size w w' := by
  have hB : Below w.heap.size w ((w.alloc (.cells #[.string nm, .slice pl ln cl, .int .i64 hs.x, .int .i64 hs.y, .int .i64 hs.z, .int .i64 us.x, .int .i64 us.y, .int .i64 us.z] 30)).alloc (.cells #[.int .i64 nz.x, .int .i64 nz.y, .int .i64 nz.z] 27)) := ((Below.refl _ _).alloc (Nat.le_refl _) _).alloc (by simp) _
  have hsz : ((w.alloc (.cells #[.string nm, .slice pl ln cl, .int .i64 hs.x, .int .i64 hs.y, .int .i64 hs.z, .int .i64 us.x, .int .i64 us.y, .int .i64 us.z] 30)).alloc (.cells #[.int .i64 nz.x, .int .i64 nz.y, .int .i64 nz.z] 27)).heap.size = w.heap.size + 2 := by simp
  have h2 : ((w.alloc (.cells #[.string nm, .slice pl ln cl, .int .i64 hs.x, .int .i64 hs.y, .int .i64 hs.z, .int .i64 us.x, .int .i64 us.y, .int .i64 us.z] 30)).alloc (.cells #[.int .i64 nz.x, .int .i64 nz.y, .int .i64 nz.z] 27)).heap[w.heap.size + 1]? = some (.cells #[.int .i64 nz.x, .int .i64 nz.y, .int .i64 nz.z] 27 (0, 0)) := by
    have h := heap_alloc_new (w.alloc (.cells #[.string nm, .slice pl ln cl, .int .i64 hs.x, .int .i64 hs.y, .int .i64 hs.z, .int .i64 us.x, .int .i64 us.y, .int .i64 us.z] 30)) (.cells #[.int .i64 nz.x, .int .i64 nz.y, .int .i64 nz.z] 27)
    rw [World.size_alloc] at h
    exact h
  have hsub := Sub_any hs us ((w.alloc (.cells #[.string nm, .slice pl ln cl, .int .i64 hs.x, .int .i64 hs.y, .int .i64 hs.z, .int .i64 us.x, .int .i64 us.y, .int .i64 us.z] 30)).alloc (.cells #[.int .i64 nz.x, .int .i64 nz.y, .int .i64 nz.z] 27))
  rw [hR, hE] at hsub
  have hBH : Hid (Below w.heap.size w _) := hB
  have hszH : Hid (_ = _) := hsz
  clear hB hsz hR hE
  go_enter Tryd.func34, Tryd.ntmps34
  go_wp2_with (first
    | (go_at_call 39; refine hsub.mono ?_; rintro e w3 ⟨rfl, hb3⟩; clear hsub; have g2 := (hb3.block (w.heap.size + 1) (by rw [hszH.out]; omega)).trans h2; clear h2)
    | (refine wpList_store_row rfl 27 _ _ rfl _ #[.int .i64 R.x, .int .i64 R.y, .int .i64 R.z] rfl rfl _ _ (g2) (need_info _ rfl) rfl (need_one _ _ _) ?_)
    | go_in)
  refine bodyPost_ret (results_free rfl (setRow_heap w3 (w.heap.size + 1) _ _ _ _ g2) rfl rfl) rfl ?_
  exact ⟨rfl, below_row (hBH.out.trans (hb3.mono hBH.out.size)) (by omega)⟩

set_option maxHeartbeats 4000000 in
set_option maxRecDepth 100000 in
theorem checkHost_any (h : Ht) (pl : Option Addr) (ln cl : Nat) (hln : h.L.length = ln) (hlc : ln ≤ cl) (p : Option Addr) (l : List Ht) (n c : Nat) (hn : l.length = n) (hni : (n : Int) ≤ 9223372036854775807) (w : World) (hX : TabX w) (hLb : Lbs w pl h.L) (hl : Hsts w p l) (E : Int) (hE : hoE l h = E) (nm : ByteArray) (hs us : N3) (e1 : h.nm = nm) (e2 : h.hs = hs) (e3 : h.us = us) :
    Calls Tryd.prog 46 #[.agg #[.string nm, .slice pl ln cl, .int .i64 hs.x, .int .i64 hs.y, .int .i64 hs.z, .int .i64 us.x, .int .i64 us.y, .int .i64 us.z], .slice p n c] w fun e w' => e = .returned (.int .i64 E) ∧ Below w.heap.size w w' := by
  have hB : Below w.heap.size w (w.alloc (.cells #[.string nm, .slice pl ln cl, .int .i64 hs.x, .int .i64 hs.y, .int .i64 hs.z, .int .i64 us.x, .int .i64 us.y, .int .i64 us.z] 30)) := (Below.refl _ _).alloc (Nat.le_refl _) _
  have g0 := heap_alloc_new w (.cells #[.string nm, .slice pl ln cl, .int .i64 hs.x, .int .i64 hs.y, .int .i64 hs.z, .int .i64 us.x, .int .i64 us.y, .int .i64 us.z] 30)
  have hla := label_any nm (w.alloc (.cells #[.string nm, .slice pl ln cl, .int .i64 hs.x, .int .i64 hs.y, .int .i64 hs.z, .int .i64 us.x, .int .i64 us.y, .int .i64 us.z] 30)) (hX.below hB (Nat.le_refl _))
  have hct := fun w1 (h1 : Below w.heap.size w w1) h2 r hr => containsH_any nm pl ln cl hs us w.heap.size p l n c hn hni w1 h2 (hl.below h1) r hr
  have hcl := fun w1 (h1 : Below w.heap.size w w1) => checkLabels_any pl h.L ln cl hln hlc w1 (hLb.below h1) (hX.below h1 (Nat.le_refl _))
  have hfr := fun w1 => free_any nm pl ln cl hs us w1 _ _ rfl rfl
  unfold hoE at hE
  rw [e1, e2, e3] at hE
  have hBH : Hid (Below w.heap.size w (w.alloc (.cells #[.string nm, .slice pl ln cl, .int .i64 hs.x, .int .i64 hs.y, .int .i64 hs.z, .int .i64 us.x, .int .i64 us.y, .int .i64 us.z] 30))) := hB
  clear hB hX hLb hl hln hlc hn hni e1 e2 e3
  cases hk : lbB nm.data.toList with
  | false =>
    rw [hk] at hla hE
    obtain rfl : 3 = E := hE
    clear hk hct hcl hfr
    go_enter Tryd.func46, Tryd.ntmps46
    go_wp2_with (first
      | (go_at_call 70; refine hla.mono ?_; rintro e w3 ⟨rfl, hb3⟩; clear hla)
      | go_in)
    go_ret
    exact ⟨rfl, hBH.out.trans (hb3.mono hBH.out.size)⟩
  | true =>
    rw [hk] at hla hE
    obtain ⟨r, hr⟩ : ∃ r, (l.any fun y => kqB nm y.nm) = r := ⟨_, rfl⟩
    have hct2 := fun w1 h1 h2 => hct w1 h1 h2 r hr
    rw [hr, if_neg (by decide)] at hE
    clear hk hct hr
    cases r with
    | true =>
      rw [if_pos rfl] at hE
      subst hE
      clear hcl hfr
      go_enter Tryd.func46, Tryd.ntmps46
      go_wp2_with (first
        | (go_at_call 70; refine hla.mono ?_; rintro e w3 ⟨rfl, hb3⟩; clear hla; have hB3 : Below w.heap.size w w3 := hBH.out.trans (hb3.mono hBH.out.size); have g3 := (hb3.block _ (Array.getElem?_eq_some_iff.1 g0).1).trans g0)
        | (go_at_call 71; refine (hct2 _ hB3 g3).mono ?_; rintro e w4 ⟨rfl, hb4⟩; clear hct2)
        | go_in)
      go_ret
      exact ⟨rfl, hB3.trans (hb4.mono hB3.size)⟩
    | false =>
      rw [if_neg (by decide)] at hE
      obtain ⟨E2, hE2⟩ : ∃ E2, lblE h.L = E2 := ⟨_, rfl⟩
      rw [hE2] at hcl hE
      clear hE2
      by_cases h0 : E2 = 0
      · subst h0
        rw [if_neg (by decide)] at hE
        generalize sE hs us = E3 at *
        subst hE
        generalize sR hs us = R at *
        go_enter Tryd.func46, Tryd.ntmps46
        go_wp2_with (first
          | (go_at_call 70; refine hla.mono ?_; rintro e w3 ⟨rfl, hb3⟩; clear hla; have hB3 : Below w.heap.size w w3 := hBH.out.trans (hb3.mono hBH.out.size); have g3 := (hb3.block _ (Array.getElem?_eq_some_iff.1 g0).1).trans g0)
          | (go_at_call 71; refine (hct2 _ hB3 g3).mono ?_; rintro e w4 ⟨rfl, hb4⟩; clear hct2; have hB4 : Below w.heap.size w w4 := hB3.trans (hb4.mono hB3.size); have g4 := (hb4.block _ (Array.getElem?_eq_some_iff.1 g3).1).trans g3; have z1 := (cell_of_row _ _ 1 _ _ _ g4).trans rfl)
          | (go_at_call 73; refine (hcl _ hB4).mono ?_; rintro e w5 ⟨rfl, hb5⟩; clear hcl; have hB5 : Below w.heap.size w w5 := hB4.trans (hb5.mono hB4.size); have g5 := (hb5.block _ (Array.getElem?_eq_some_iff.1 g4).1).trans g4)
          | (refine load_wanted rfl 30 _ rfl _ rfl _ _ _ _ (g5) Tryd.underlying30 rfl (host_info _ rfl) ?_)
          | (go_at_call 34; refine (hfr _).mono ?_; rintro e w6 ⟨rfl, hb6⟩; clear hfr)
          | go_in)
        go_ret
        exact ⟨rfl, (hB5.trans (hb6.mono hB5.size)).alloc (hB5.trans (hb6.mono hB5.size)).size _⟩
      · rw [if_pos h0] at hE
        subst hE
        have hne : (E2 != 0) = true := by simpa using h0
        clear hfr h0
        go_enter Tryd.func46, Tryd.ntmps46
        go_wp2_with (first
          | (go_at_call 70; refine hla.mono ?_; rintro e w3 ⟨rfl, hb3⟩; clear hla; have hB3 : Below w.heap.size w w3 := hBH.out.trans (hb3.mono hBH.out.size); have g3 := (hb3.block _ (Array.getElem?_eq_some_iff.1 g0).1).trans g0)
          | (go_at_call 71; refine (hct2 _ hB3 g3).mono ?_; rintro e w4 ⟨rfl, hb4⟩; clear hct2; have hB4 : Below w.heap.size w w4 := hB3.trans (hb4.mono hB3.size); have g4 := (hb4.block _ (Array.getElem?_eq_some_iff.1 g3).1).trans g3; have z1 := (cell_of_row _ _ 1 _ _ _ g4).trans rfl)
          | (go_at_call 73; refine (hcl _ hB4).mono ?_; rintro e w5 ⟨rfl, hb5⟩; clear hcl)
          | go_in)
        go_ret
        exact ⟨rfl, hB4.trans (hb5.mono hB4.size)⟩

set_option maxHeartbeats 4000000 in
set_option maxRecDepth 100000 in
theorem hCheck_any (p : Option Addr) (l : List Ht) (n c : Nat) (hn : l.length = n) (hnc : n ≤ c) (w : World) (hX : TabX w) (hl : Hsts w p l) (E : Int) (hE : hcE l = E) : Calls Tryd.prog 15 #[.slice p n c] w fun e w' => e = .returned (.int .i64 E) ∧ Below w.heap.size w w' := by
  by_cases h30 : 30 < n
  · obtain rfl : 2 = E := by rw [← hE]; unfold hcE; rw [if_pos (by omega)]
    have h30' : (30 : Int) < (n : Int) := by omega
    clear hE hX hl hn hnc h30
    go_enter Tryd.func15, Tryd.ntmps15
    go_wp2
    go_ret
    exact ⟨rfl, Below.refl _ _⟩
  · have h30' : ¬ (30 : Int) < (n : Int) := by omega
    have hEH : Hid (hcG [] l = E) := by
      show _ = _
      rw [← hE]
      unfold hcE
      rw [if_neg (by omega)]
    have hlH : Hid (Hsts w p l) := hl
    have hXH : Hid (TabX w) := hX
    have hnH : Hid (l.length = n) := hn
    have hncH : Hid (n ≤ c) := hnc
    clear hE hX hl hn h30 hnc
    go_enter Tryd.func15, Tryd.ntmps15
    go_wp2
    go_loopw [11] (fun iv wr => ∃ j : Nat, iv = .int .i64 j ∧ j ≤ n ∧ Hid (hcG (l.take j) (l.drop j) = E) ∧ Hid (Below w.heap.size w wr)) (fun iv _ => n - (intOf iv).toNat)
    case atStart => exact ⟨0, rfl, Nat.zero_le _, by rw [List.take_zero, List.drop_zero]; exact hEH, Below.refl _ _⟩
    case round =>
      obtain ⟨j, rfl, hj, hcg, hbl⟩ := hrel
      by_cases hjl : j < n
      · obtain ⟨x, hx⟩ : ∃ x, l[j]? = some x := ⟨l[j]'(by rw [hnH.out]; exact hjl), List.getElem?_eq_getElem _⟩
        obtain ⟨g, o, rfl, hg, hc⟩ := hlH.out.resolve_left (fun e => by have := hnH.out; rw [e] at this; simp at this; omega)
        obtain ⟨pl, cl, hc8, hlb, hlm, hlc⟩ := hc j x hx
        obtain ⟨⟨q0, q1⟩, ⟨q2, q3, q4⟩, ⟨q5, q6, q7⟩⟩ := hc8.below hbl.out hg
        have hcg2 := hcg.out
        rw [hcG_at hx] at hcg2
        obtain ⟨E2, hE2⟩ : ∃ E2, hoE (l.take j) x = E2 := ⟨_, rfl⟩
        have hck := fun w1 (h1 : Below w.heap.size w w1) => checkHost_any x pl x.L.length cl rfl hlc (some ⟨g, o, none⟩) (l.take j) j c (by rw [List.length_take, hnH.out]; omega) (by omega) w1 (hXH.out.below h1 (Nat.le_refl _)) (hlb.below h1) ((hlH.out.below h1).take j) E2 hE2 x.nm x.hs x.us rfl rfl rfl
        rw [hE2] at hcg2
        obtain ⟨nm, L, hs, us⟩ := x
        obtain ⟨ln, hln⟩ : ∃ m, L.length = m := ⟨_, rfl⟩
        simp only at q0 q1 q2 q3 q4 q5 q6 q7 hck
        rw [hln] at q1 hck
        have hjH : Hid (j < n) := hjl
        have hlt : (j : Int) < (n : Int) := by omega
        have hjc : (j : Int) ≤ (c : Int) := by have := hncH.out; omega
        have hjc2 : j ≤ c := by have := hncH.out; omega
        have ha : Below w.heap.size w (wr.alloc (.cells #[.string nm, .slice pl ln cl, .int .i64 hs.x, .int .i64 hs.y, .int .i64 hs.z, .int .i64 us.x, .int .i64 us.y, .int .i64 us.z] 30)) := hbl.out.alloc hbl.out.size _
        have g0 := heap_alloc_new wr (.cells #[.string nm, .slice pl ln cl, .int .i64 hs.x, .int .i64 hs.y, .int .i64 hs.z, .int .i64 us.x, .int .i64 us.y, .int .i64 us.z] 30)
        have haH : Hid (Below w.heap.size w (wr.alloc (.cells #[.string nm, .slice pl ln cl, .int .i64 hs.x, .int .i64 hs.y, .int .i64 hs.z, .int .i64 us.x, .int .i64 us.y, .int .i64 us.z] 30))) := ha
        clear hx hc hc8 hlb hlm hlc hE2 hln hj hjl ha hcg
        have hcl : ∀ w' : World, w'.heap[wr.heap.size]? = some (.cells #[.string nm, .slice pl ln cl, .int .i64 hs.x, .int .i64 hs.y, .int .i64 hs.z, .int .i64 us.x, .int .i64 us.y, .int .i64 us.z] 30 (0, 0)) → w'.cell? ⟨wr.heap.size, 0, none⟩ = some (.string nm) ∧ w'.cell? ⟨wr.heap.size, 1, none⟩ = some (.slice pl ln cl) ∧ w'.cell? ⟨wr.heap.size, 2, none⟩ = some (.int .i64 hs.x) ∧ w'.cell? ⟨wr.heap.size, 3, none⟩ = some (.int .i64 hs.y) ∧ w'.cell? ⟨wr.heap.size, 4, none⟩ = some (.int .i64 hs.z) ∧ w'.cell? ⟨wr.heap.size, 5, none⟩ = some (.int .i64 us.x) ∧ w'.cell? ⟨wr.heap.size, 6, none⟩ = some (.int .i64 us.y) ∧ w'.cell? ⟨wr.heap.size, 7, none⟩ = some (.int .i64 us.z) := fun w' h => ⟨(cell_of_row _ _ 0 _ _ _ h).trans rfl, (cell_of_row _ _ 1 _ _ _ h).trans rfl, (cell_of_row _ _ 2 _ _ _ h).trans rfl, (cell_of_row _ _ 3 _ _ _ h).trans rfl, (cell_of_row _ _ 4 _ _ _ h).trans rfl, (cell_of_row _ _ 5 _ _ _ h).trans rfl, (cell_of_row _ _ 6 _ _ _ h).trans rfl, (cell_of_row _ _ 7 _ _ _ h).trans rfl⟩
        go_wp2
        refine Tkc.region_anyC (C := fun w' => w'.heap[wr.heap.size]? = some (.cells #[.string nm, .slice pl ln cl, .int .i64 hs.x, .int .i64 hs.y, .int .i64 hs.z, .int .i64 us.x, .int .i64 us.y, .int .i64 us.z] 30 (0, 0))) (s := 6) (by kernel_rfl) ?_
        have hcz : (wr.alloc (.cells #[.string nm, .slice pl ln cl, .int .i64 hs.x, .int .i64 hs.y, .int .i64 hs.z, .int .i64 us.x, .int .i64 us.y, .int .i64 us.z] 30)).drew.heap[wr.heap.size]? = some (.cells #[.string nm, .slice pl ln cl, .int .i64 hs.x, .int .i64 hs.y, .int .i64 hs.z, .int .i64 us.x, .int .i64 us.y, .int .i64 us.z] 30 (0, 0)) := g0
        have hBd : Below w.heap.size w (wr.alloc (.cells #[.string nm, .slice pl ln cl, .int .i64 hs.x, .int .i64 hs.y, .int .i64 hs.z, .int .i64 us.x, .int .i64 us.y, .int .i64 us.z] 30)).drew := haH.out.drew
        generalize (wr.alloc (.cells #[.string nm, .slice pl ln cl, .int .i64 hs.x, .int .i64 hs.y, .int .i64 hs.z, .int .i64 us.x, .int .i64 us.y, .int .i64 us.z] 30)).drew = wd at *
        refine Tkc.takeC (i := 0) (v := .agg #[.string nm, .slice pl ln cl, .int .i64 hs.x, .int .i64 hs.y, .int .i64 hs.z, .int .i64 us.x, .int .i64 us.y, .int .i64 us.z]) rfl (by kernel_rfl) (by kernel_rfl) (by kernel_rfl) (fun _ _ _ h => h) (by decide) (by kernel_rfl) (by kernel_rfl) hcz ⟨by rfl, fun w hw => by obtain ⟨z0, z1, z2, z3, z4, z5, z6, z7⟩ := hcl w hw; go_simp⟩ ?_
        try go_frame
        refine Tkc.takeC (i := 1) (v := .slice (some ⟨g, o, none⟩) n c) rfl (by kernel_rfl) (by kernel_rfl) (by kernel_rfl) (fun _ _ _ h => h) (by decide) (by kernel_rfl) (by kernel_rfl) hcz ⟨by rfl, fun w hw => by obtain ⟨z0, z1, z2, z3, z4, z5, z6, z7⟩ := hcl w hw; go_simp⟩ ?_
        try go_frame
        refine Tkc.takeC (i := 2) (v := .int .i64 (j : Int)) rfl (by kernel_rfl) (by kernel_rfl) (by kernel_rfl) (fun _ _ _ h => h) (by decide) (by kernel_rfl) (by kernel_rfl) hcz ⟨by rfl, fun w hw => by obtain ⟨z0, z1, z2, z3, z4, z5, z6, z7⟩ := hcl w hw; go_simp⟩ ?_
        try go_frame
        refine Tkc.takeC (i := 3) (v := .slice (some ⟨g, o, none⟩) j c) rfl (by kernel_rfl) (by kernel_rfl) (by kernel_rfl) (fun _ _ _ h => h) (by decide) (by kernel_rfl) (by kernel_rfl) hcz ⟨by rfl, fun w hw => by obtain ⟨z0, z1, z2, z3, z4, z5, z6, z7⟩ := hcl w hw; go_simp⟩ ?_
        try go_frame
        clear hcl q0 q1 q2 q3 q4 q5 q6 q7
        refine Tkc.onlyC (i := 4) rfl (by kernel_rfl) (fun _ => hcz) (by rfl) (fun K hK => ?_)
        go_simp
        refine (hck wd hBd).mono ?_
        rintro e w3 ⟨rfl, hb3⟩
        have hcz3 := (hb3.block _ (Array.getElem?_eq_some_iff.1 hcz).1).trans hcz
        have hB3 : Below w.heap.size w w3 := hBd.trans (hb3.mono hBd.size)
        have hB3H : Hid (Below w.heap.size w w3) := hB3
        clear hck hB3 hb3 hBd
        refine hK _ _ ?_
        clear hK K
        try go_frame
        refine Tkc.onlyC (i := 5) rfl (by kernel_rfl) (fun _ => hcz3) (by rfl) (fun K hK => ?_)
        go_simp
        refine hK _ _ ?_
        clear hK K
        try go_frame
        refine Tkc.doneC (by kernel_rfl) (fun _ => hcz3) ?_
        clear hcz hcz3
        by_cases h0 : E2 = 0
        · subst h0
          rw [if_neg (by decide)] at hcg2
          have hcgH : Hid (hcG (List.take (j + 1) l) (List.drop (j + 1) l) = E) := hcg2
          clear hcg2
          go_wp2
          refine ⟨⟨j + 1, by first | rfl | simp, hjH.out, hcgH, hB3H⟩, ?_⟩
          have := hjH.out
          simp [intOf]
          omega
        · rw [if_pos h0] at hcg2
          subst hcg2
          have hne : (E2 != 0) = true := by simpa using h0
          clear h0
          go_wp2
          go_ret
          exact ⟨rfl, hB3H.out⟩
      · have hlt : ¬ (j : Int) < (n : Int) := by omega
        have hz : 0 = E := by
          have := hcg.out
          rw [List.drop_of_length_le (by rw [hnH.out]; omega)] at this
          exact this
        subst hz
        go_wp2
        go_ret
        exact ⟨rfl, hbl.out⟩
end Go.Proofs.YtelepamnlpebgabDoor
