/- The queue's calls Drop and Raise, walked. -/
import Derived.Test.YthkhlgannimebaaQur
namespace Go.Proofs.Ythkhlgannimebaa
open Go.RowKit Go.Maps Go.Sort Qum
set_option linter.unusedSectionVars false

set_option maxRecDepth 100000 in
theorem drop_no {B : Nat} {w : World} {qb bm : Nat} {S : Qu} {id : Int} (h : Que B w qb bm S) (wi : (Lit.int .i64 id).wf = true) (hno : hasId S.L id = false) :
    Calls Try.prog 17 #[.pointer (some ⟨qb, 0, none⟩), .int .i64 id] w fun e w' => e = .returned (.int .i64 5) ∧ Below w.heap.size w w' := by
  obtain ⟨v, H, D, hP, _, hperm, hown, hr, _⟩ := h
  have c2 := hP.slot2
  have hh : Maps.has D (ky id) = false := hr.no (perm_ids hperm hno)
  clear hP hr hno hperm
  go_enter Try.func17, Try.ntmps17
  go_wp2_with (first
    | (at_lookup; refine wpList_lookup_pt _ rfl _ _ 55 rfl 3 60 lawK Try.underlying55 (zeroP _) bm _ D rfl hown _ _ rfl (keyOf_int_mk Try.underlying3 wi) _ hh ?_; intro c; clear hown)
    | go_in)
  go_ret
  exact ⟨rfl, Below.refl _ _⟩

/-- The one of a name, and its place. -/
theorem place_any {H : List Nd} {L : List Th} (hp : (H.map (·.x)).Perm L) {id : Int} (hyes : hasId L id = true) : ∃ k, k < H.length ∧ (nd H k).x.i = id ∧ (nd H k).x ∈ L := by
  obtain ⟨y, hy, e⟩ := hasId_true hyes
  obtain ⟨z, hz, e2⟩ := List.mem_map.1 (hp.mem_iff.2 hy)
  obtain ⟨k, hk, e3⟩ := nd_of_mem hz
  exact ⟨k, hk, by rw [e3, e2, e], by rw [e3, e2]; exact hy⟩

set_option maxRecDepth 100000 in
theorem drop_yes {B : Nat} {w : World} {qb bm k : Nat} {S : Qu} {id : Int} (h : Que B w qb bm S) (hk : Ok k S) (wi : (Lit.int .i64 id).wf = true) (hyes : hasId S.L id = true) :
    Calls Try.prog 17 #[.pointer (some ⟨qb, 0, none⟩), .int .i64 id] w fun e w' => e = .returned (.int .i64 0) ∧ Que B w' qb bm (drpS S id) ∧ Fq B (some bm) w w' := by
  obtain ⟨v, H, D, hP, hHp, hperm, hown, hr, hBm⟩ := h
  obtain ⟨i, hi, hid, _⟩ := place_any hperm hyes
  have c2 := hP.slot2
  have hh : Maps.has D (ky id) = true := hr.yes (nd_mem hi) hid
  have hat : ∀ z, D.atKey (ky id) z = dP (nd H i).b := fun z => by rw [← hid]; exact hr.at_ _ (nd_mem hi) z
  have t3 := (th_cells (hP.thg i hi)).2.2.2
  have hrem := rem_any (i := i) hP hHp hperm hown hr hBm hk hi (by rw [hid]; exact wi)
  rw [hid] at hrem
  generalize nd H i = y at *
  clear hP hHp hperm hr hyes hid
  go_enter Try.func17, Try.ntmps17
  go_wp2_with (first
    | (at_lookup; refine wpList_lookup_yes _ rfl _ _ 55 rfl 3 60 lawK Try.underlying55 (zeroP _) bm _ D rfl hown _ _ rfl (keyOf_int_mk Try.underlying3 wi) hh y.b hat ?_; clear hown)
    | (go_at_call 28; refine hrem.mono ?_; rintro e w1 ⟨rfl, hQ1, hF1⟩; clear hrem)
    | go_in)
  go_ret
  exact ⟨rfl, hQ1, hF1⟩

/-- Drop. -/
theorem drop_any {B : Nat} {w : World} {qb bm k : Nat} {S : Qu} {id : Int} (h : Que B w qb bm S) (hk : Ok k S) (wi : (Lit.int .i64 id).wf = true) :
    Calls Try.prog 17 #[.pointer (some ⟨qb, 0, none⟩), .int .i64 id] w fun e w' => e = .returned (.int .i64 (drpE S id)) ∧ Que B w' qb bm (drpS S id) ∧ Fq B (some bm) w w' := by
  cases hid : hasId S.L id
  · refine (drop_no h wi hid).mono fun e w' ⟨he, hb⟩ => ⟨?_, ?_, Fq.below_of hb h.base⟩
    · rw [he]; simp [drpE, hid]
    · have : drpS S id = S := by unfold drpS; rw [dropId_none hid]
      rw [this]
      exact h.below hb
  · refine (drop_yes h hk wi hid).mono fun e w' ⟨he, hb⟩ => ⟨?_, hb⟩
    rw [he]; simp [drpE, hid]

set_option maxRecDepth 100000 in
theorem raise_no {B : Nat} {w : World} {qb bm : Nat} {S : Qu} {id p : Int} (h : Que B w qb bm S) (wi : (Lit.int .i64 id).wf = true) (hno : hasId S.L id = false) :
    Calls Try.prog 18 #[.pointer (some ⟨qb, 0, none⟩), .int .i64 id, .int .i64 p] w fun e w' => e = .returned (.int .i64 5) ∧ Below w.heap.size w w' := by
  obtain ⟨v, H, D, hP, _, hperm, hown, hr, _⟩ := h
  have c2 := hP.slot2
  have hh : Maps.has D (ky id) = false := hr.no (perm_ids hperm hno)
  clear hP hr hno hperm
  go_enter Try.func18, Try.ntmps18
  go_wp2_with (first
    | (at_lookup; refine wpList_lookup_pt _ rfl _ _ 55 rfl 3 60 lawK Try.underlying55 (zeroP _) bm _ D rfl hown _ _ rfl (keyOf_int_mk Try.underlying3 wi) _ hh ?_; intro c; clear hown)
    | go_in)
  go_ret
  exact ⟨rfl, Below.refl _ _⟩

set_option maxRecDepth 100000 in
theorem raise_low {B : Nat} {w : World} {qb bm k : Nat} {S : Qu} {id p : Int} (h : Que B w qb bm S) (hk : Ok k S) (wi : (Lit.int .i64 id).wf = true) (hyes : hasId S.L id = true) (hp : p < priOf S.L id) :
    Calls Try.prog 18 #[.pointer (some ⟨qb, 0, none⟩), .int .i64 id, .int .i64 p] w fun e w' => e = .returned (.int .i64 1) ∧ Below w.heap.size w w' := by
  obtain ⟨v, H, D, hP, hHp, hperm, hown, hr, hBm⟩ := h
  obtain ⟨i, hi, hid, hmem⟩ := place_any hperm hyes
  have hpri := priOf_of hk.ids hmem
  rw [hid] at hpri
  rw [hpri] at hp
  have c2 := hP.slot2
  have hh : Maps.has D (ky id) = true := hr.yes (nd_mem hi) hid
  have hat : ∀ z, D.atKey (ky id) z = dP (nd H i).b := fun z => by rw [← hid]; exact hr.at_ _ (nd_mem hi) z
  have t0 := (th_cells (hP.thg i hi)).1
  generalize nd H i = y at *
  clear hP hHp hperm hr hyes hid hpri
  go_enter Try.func18, Try.ntmps18
  go_wp2_with (first
    | (at_lookup; refine wpList_lookup_yes _ rfl _ _ 55 rfl 3 60 lawK Try.underlying55 (zeroP _) bm _ D rfl hown _ _ rfl (keyOf_int_mk Try.underlying3 wi) hh y.b hat ?_; clear hown)
    | go_in)
  go_ret
  exact ⟨rfl, Below.refl _ _⟩

/-- One has another prio. -/
theorem Pl.prio {B : Nat} {w : World} {qb bm : Nat} {tn : Int} {v : Value} {H : List Nd} (h : Pl B w qb tn bm v H) {i : Nat} (hi : i < H.length) (p : Int) :
    Pl B (w.setCell ⟨(nd H i).b, 0, none⟩ (.int .i64 p)) qb tn bm v (H.set i ⟨(nd H i).b, ⟨p, (nd H i).x.i, (nd H i).x.t⟩⟩) ∧ Fq B none w (w.setCell ⟨(nd H i).b, 0, none⟩ (.int .i64 p)) := by
  have hl : (H.set i ⟨(nd H i).b, ⟨p, (nd H i).x.i, (nd H i).x.t⟩⟩).length = H.length := by simp
  have hb : ∀ k, k < H.length → (nd (H.set i ⟨(nd H i).b, ⟨p, (nd H i).x.i, (nd H i).x.t⟩⟩) k).b = (nd H k).b := fun k _ => by
    rw [nd_set hi]; split
    · rename_i e; rw [e]
    · rfl
  have hps : ptrs (H.set i ⟨(nd H i).b, ⟨p, (nd H i).x.i, (nd H i).x.t⟩⟩) = ptrs H := by
    apply List.ext_getElem?
    intro k
    by_cases hk : k < H.length
    · rw [ptrs_get (by rw [hl]; exact hk), ptrs_get hk, hb k hk]
    · rw [List.getElem?_eq_none (by simp [ptrs]; omega), List.getElem?_eq_none (by simp [ptrs]; omega)]
  have gb : ∀ g, v.ownBlock = some g → g ≠ (nd H i).b := by
    intro g hg e
    rcases h.row.2 with ⟨rfl, _⟩ | ⟨g', cap, cur, rfl, _, hgg, _⟩
    · simp [Value.ownBlock] at hg
    · simp [Value.ownBlock] at hg
      have := h.thg i hi
      rw [← e, ← hg, hgg] at this
      simp [thO] at this
  refine ⟨⟨?_, ?_, ?_, ?_, ?_, h.qbs⟩, Fq.set _ _ _ _ (h.bas i hi) (h.tagt hi)⟩
  · rw [hl, hps]
    refine h.row.kept (w' := w.setCell ⟨(nd H i).b, 0, none⟩ (.int .i64 p)) (row := some (nd H i).b) ⟨rfl, rfl, rfl, by simp, fun k _ hk => heap_setCell_other _ ⟨_, _, _⟩ k _ (fun e => hk (by simp [e]))⟩ ?_
    cases hv : v.ownBlock with
    | none => exact Or.inl rfl
    | some g => right; intro e; cases e; exact gb _ hv rfl
  · intro k hk
    rw [hl] at hk
    rw [nd_set hi]
    split
    · rename_i e
      subst e
      exact th_prio (h.thg k hk) p
    · rename_i e
      rw [Below.heap_setCell _ _ _ _ ?_]
      · exact h.thg k hk
      · rcases Nat.lt_or_gt_of_ne e with hlt | hlt
        · exact h.dis k i hlt hi
        · exact (h.dis i k hlt hk).symm
  · intro k hk
    rw [hl] at hk
    rw [hb k hk]; exact h.bas k hk
  · intro a b hab hb2
    rw [hl] at hb2
    rw [hb a (by omega), hb b hb2]; exact h.dis a b hab hb2
  · rw [Below.heap_setCell _ _ _ _ (fun e => h.tq hi e.symm)]; exact h.que
theorem set_raised (p : Int) : ∀ {M : List Th} {i : Nat}, M.Pairwise (fun x y => x.i ≠ y.i) → i < M.length → M.set i ⟨p, (th M i).i, (th M i).t⟩ = M.map (Qum.raised (th M i).i p)
  | [], _, _, h => by cases h
  | x :: r, 0, hd, _ => by
    rw [List.pairwise_cons] at hd
    have e : r.map (Qum.raised x.i p) = r := by
      have : r.map (Qum.raised x.i p) = r.map (fun y => y) := List.map_congr_left fun y hy => by
        unfold Qum.raised
        rw [if_neg (fun e => hd.1 y hy e.symm)]
      rw [this]; simp
    have e0 : th (x :: r) 0 = x := rfl
    rw [e0]
    simp only [List.set_cons_zero, List.map_cons, e]
    congr 1
    unfold Qum.raised
    rw [if_pos rfl]
  | x :: r, i + 1, hd, h => by
    rw [List.pairwise_cons] at hd
    have hi : i < r.length := by simpa using h
    have e0 : th (x :: r) (i + 1) = th r i := rfl
    rw [e0]
    have ih := set_raised p hd.2 hi
    simp only [List.set_cons_succ, List.map_cons, ih]
    congr 1
    unfold Qum.raised
    rw [if_neg (hd.1 _ (th_mem hi))]
theorem raise_perm {H : List Nd} {L : List Th} (hp : (H.map (·.x)).Perm L) (ids : L.Pairwise fun x y => x.i ≠ y.i) {i : Nat} (hi : i < H.length) (p : Int) :
    ((H.set i ⟨(nd H i).b, ⟨p, (nd H i).x.i, (nd H i).x.t⟩⟩).map (·.x)).Perm (L.map (Qum.raised (nd H i).x.i p)) := by
  have hids := (hp.pairwise_iff (R := fun x y : Th => x.i ≠ y.i) (fun hne e => hne e.symm)).2 ids
  have hth : th (H.map (·.x)) i = (nd H i).x := by
    rw [th_get (by simpa using hi), nd_get hi]
    simp
  have e := set_raised p hids (i := i) (by simpa using hi)
  rw [hth] at e
  rw [List.map_set, e]
  exact hp.map _

set_option maxRecDepth 100000 in
theorem raise_yes {B : Nat} {w : World} {qb bm k : Nat} {S : Qu} {id p : Int} (h : Que B w qb bm S) (hk : Ok k S) (wi : (Lit.int .i64 id).wf = true) (hyes : hasId S.L id = true) (hp : ¬ p < priOf S.L id) :
    Calls Try.prog 18 #[.pointer (some ⟨qb, 0, none⟩), .int .i64 id, .int .i64 p] w fun e w' => e = .returned (.int .i64 0) ∧ Que B w' qb bm ⟨S.turns, S.L.map (Qum.raised id p)⟩ ∧ Fq B (some bm) w w' := by
  obtain ⟨v, H, D, hP, hHp, hperm, hown, hr, hBm⟩ := h
  obtain ⟨i, hi, hid, hmem⟩ := place_any hperm hyes
  have hpri := priOf_of hk.ids hmem
  rw [hid] at hpri
  rw [hpri] at hp
  have hlen := perm_len hperm
  have hl := hk.len
  obtain ⟨g, cap, rfl, _⟩ := hP.len (by omega)
  have c2 := hP.slot2
  have hh : Maps.has D (ky id) = true := hr.yes (nd_mem hi) hid
  have hat : ∀ z, D.atKey (ky id) z = dP (nd H i).b := fun z => by rw [← hid]; exact hr.at_ _ (nd_mem hi) z
  have t0 := (th_cells (hP.thg i hi)).1
  have t3 := (th_cells (hP.thg i hi)).2.2.2
  have f0 := th_frozen (hP.thg i hi) 0
  obtain ⟨hP1', hF1'⟩ := hP.prio hi p
  have hP1 := hP1'.kept (w' := (w.setCell ⟨(nd H i).b, 0, none⟩ (.int .i64 p)).drew) fun _ _ => rfl
  have hF1 := hF1'.trans (Fq.drew B none _)
  clear hP1' hF1'
  have hl1 : (H.set i ⟨(nd H i).b, ⟨p, (nd H i).x.i, (nd H i).x.t⟩⟩).length = H.length := by simp
  have hfix := hfix_any (i := i) (by rw [hl1]; exact hP1) (by rw [hl1]; omega) (by rw [hl1]; exact hi) (by
    rw [hl1]
    refine fx_of_hp (f := fx H) (m := H.length) hHp (Nat.le_refl _) hi (fun j _ hne => ?_)
    unfold fx
    rw [nd_set hi, if_neg hne])
  have hQ : Hid (∀ w2 v2 H2, Pl B w2 qb S.turns bm v2 H2 → H2.Perm (H.set i ⟨(nd H i).b, ⟨p, (nd H i).x.i, (nd H i).x.t⟩⟩) → Hp H2 H2.length → Fq B none (w.setCell ⟨(nd H i).b, 0, none⟩ (.int .i64 p)).drew w2 → Que B w2 qb bm ⟨S.turns, S.L.map (Qum.raised id p)⟩ ∧ Fq B (some bm) w w2) := by
    intro w2 v2 H2 h1 h2 h3 h4
    have hl2 : H2.length = H.length := by rw [h2.length_eq, hl1]
    refine ⟨⟨v2, H2, D, h1, h3, ?_, ?_, (hr.set (y := ⟨(nd H i).b, ⟨p, (nd H i).x.i, (nd H i).x.t⟩⟩) hi rfl rfl).perm h2.symm, hBm⟩, (hF1.trans h4).wide _⟩
    · have h5 := raise_perm hperm hk.ids hi p
      have h6 : S.L.map (Qum.raised (nd H i).x.i p) = S.L.map (Qum.raised id p) := by rw [hid]
      rw [h6] at h5
      exact (h2.map (fun z : Nd => z.x)).trans h5
    · rw [hl2]; exact (hF1.trans h4).map hown
  unfold hv at hfix
  have t3' : (w.setCell ⟨(nd H i).b, 0, none⟩ (.int .i64 p)).cell? ⟨(nd H i).b, 3, none⟩ = some (.int .i64 i) := (th_cells (th_prio (hP.thg i hi) p)).2.2.2
  generalize H.set i ⟨(nd H i).b, ⟨p, (nd H i).x.i, (nd H i).x.t⟩⟩ = H1 at *
  generalize nd H i = y at *
  have hi' : (i : Int) ≤ 200 := by omega
  clear hP hHp hperm hr hyes hid hpri hP1 hF1 hl1
  go_enter Try.func18, Try.ntmps18
  go_wp2_with (first
    | (at_lookup; refine wpList_lookup_yes _ rfl _ _ 55 rfl 3 60 lawK Try.underlying55 (zeroP _) bm _ D rfl hown _ _ rfl (keyOf_int_mk Try.underlying3 wi) hh y.b hat ?_; clear hown)
    | go_in)
  generalize w.setCell ⟨y.b, 0, none⟩ (.int .i64 p) = w1 at *
  refine wp_region_still_tail 8 (by kernel_rfl) (by kernel_rfl) ?_
  simp only [List.take_succ_cons, List.take_zero, List.drop_succ_cons, List.drop_zero]
  repeat still_step
  refine wpStill_nil ?_
  change wpList _ _ _ _ _ (World.drew w1)
  go_wp2_with (first
    | (go_at_call 29; refine hfix.mono ?_; rintro e w2 ⟨rfl, v2, H2, hP2, hp2, hh2, hF2⟩; clear hfix)
    | go_in)
  go_ret
  obtain ⟨q1, q2⟩ := hQ.out w2 v2 H2 hP2 hp2 hh2 hF2
  exact ⟨rfl, q1, q2⟩

/-- Raise. -/
theorem raise_any {B : Nat} {w : World} {qb bm k : Nat} {S : Qu} {id p : Int} (h : Que B w qb bm S) (hk : Ok k S) (wi : (Lit.int .i64 id).wf = true) :
    Calls Try.prog 18 #[.pointer (some ⟨qb, 0, none⟩), .int .i64 id, .int .i64 p] w fun e w' => e = .returned (.int .i64 (raiE S id p)) ∧ Que B w' qb bm (raiS S id p) ∧ Fq B (some bm) w w' := by
  cases hid : hasId S.L id
  · have e : raiE S id p = 5 := by simp [raiE, hid]
    have e2 : raiS S id p = S := by simp [raiS, e]
    rw [e, e2]
    exact (raise_no h wi hid).mono fun _ _ ⟨he, hb⟩ => ⟨he, h.below hb, Fq.below_of hb h.base⟩
  · by_cases hp : p < priOf S.L id
    · have e : raiE S id p = 1 := by simp [raiE, hid, hp]
      have e2 : raiS S id p = S := by simp [raiS, e]
      rw [e, e2]
      exact (raise_low h hk wi hid hp).mono fun _ _ ⟨he, hb⟩ => ⟨he, h.below hb, Fq.below_of hb h.base⟩
    · have e : raiE S id p = 0 := by simp [raiE, hid, hp]
      have e2 : raiS S id p = ⟨S.turns, S.L.map (Qum.raised id p)⟩ := by simp [raiS, e]
      rw [e, e2]
      exact raise_yes h hk wi hid hp
end Go.Proofs.Ythkhlgannimebaa
