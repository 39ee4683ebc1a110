/- The mathematics of raising one in a row. -/
import Derived.Test.YthkhlgannimebaaQla
namespace Go.Proofs.Ythkhlgannimebaa.Qrm
open Go Go.Maps Qum Go.Proofs.Ythkhlgannimebaa

theorem erase_id {L : List Th} {j : Nat} {id : Int} (ids : L.Pairwise (fun x y => x.i ≠ y.i)) (hj : j < L.length) (e : (th L j).i = id) : dropId L id = L.eraseIdx j := by
  induction L generalizing j with
  | nil => cases hj
  | cons x r ih =>
    rw [List.pairwise_cons] at ids
    cases j with
    | zero =>
      have e' : x.i = id := e
      subst e'
      rw [dropId_cons ids.1]
      rfl
    | succ j =>
      have hj' : j < r.length := by simpa using hj
      have e' : (th r j).i = id := by simpa [th] using e
      have hne : x.i ≠ id := by
        have := ids.1 (th r j) (th_mem hj')
        rwa [e'] at this
      have := ih ids.2 hj' e'
      rw [List.eraseIdx_cons_succ, ← this]
      simp [dropId, hne]

theorem drop_srt {L : List Th} (id : Int) (ht : L.Pairwise (fun x y => x.t ≠ y.t)) : dropId (srt L) id = srt (dropId L id) :=
  srt_unique (dropId_perm (srt_perm L) id) ((srt_sorted L).filter _) (ht.filter _)
theorem drop_raised (id p : Int) : ∀ L : List Th, dropId (L.map (Qum.raised id p)) id = dropId L id
  | [] => rfl
  | x :: r => by
    have ih := drop_raised id p r
    unfold dropId at *
    rw [List.map_cons, List.filter_cons, List.filter_cons, ih, raised_i]
    by_cases e : x.i = id
    · simp [e]
    · simp [e, Qum.raised]

/-- The first place of a name. -/
def IsAt (F : List Th) (id : Int) (d : Nat) : Prop := d < F.length ∧ (th F d).i = id ∧ ∀ t, t < d → (th F t).i ≠ id
theorem isAt_ex {F : List Th} {id : Int} (h : hasId F id = true) : ∃ d, IsAt F id d := by
  have hex : ∃ d, d < F.length ∧ (th F d).i = id := by
    obtain ⟨y, hy, e⟩ := hasId_true h
    obtain ⟨k, hk, e2⟩ := List.getElem_of_mem hy
    exact ⟨k, hk, by rw [th_get hk, e2, e]⟩
  obtain ⟨d, hd⟩ := hex
  induction d using Nat.strongRecOn with
  | ind d ih =>
    by_cases hl : ∃ t, t < d ∧ (th F t).i = id
    · obtain ⟨t, ht, e⟩ := hl
      exact ih t ht ⟨by omega, e⟩
    · exact ⟨d, hd.1, hd.2, fun t ht e => hl ⟨t, ht, e⟩⟩

theorem th_erase {F : List Th} {i j : Nat} (hi : i < F.length) (hj : j < F.length - 1) : th (F.eraseIdx i) j = if j < i then th F j else th F (j + 1) := by
  have hl := List.length_eraseIdx_of_lt hi
  rw [th_get (by omega), List.getElem_eraseIdx]
  split
  · rw [th_get]
  · rw [th_get]

theorem raised_le {L : List Th} {id p : Int} {i k : Nat} (ids : L.Pairwise (fun x y => x.i ≠ y.i)) (ht : L.Pairwise (fun x y => x.t ≠ y.t)) (hp : ¬ p < priOf L id) (ha : IsAt (srt L) id i) (hb : IsAt (srt (L.map (Qum.raised id p))) id k) :
    k ≤ i ∧ (th (srt (L.map (Qum.raised id p))) k).p = p := by
  have hl1 : (srt L).length = L.length := srt_len L
  have hl2 : (srt (L.map (Qum.raised id p))).length = L.length := by rw [srt_len]; simp
  have idsA : (srt L).Pairwise (fun x y => x.i ≠ y.i) := uniq_srt ids
  have idsM : (L.map (Qum.raised id p)).Pairwise (fun x y => x.i ≠ y.i) := by simp only [List.pairwise_map, raised_i]; exact ids
  have htM : (L.map (Qum.raised id p)).Pairwise (fun x y => x.t ≠ y.t) := by simp only [List.pairwise_map, raised_t]; exact ht
  have idsB : (srt (L.map (Qum.raised id p))).Pairwise (fun x y => x.i ≠ y.i) := uniq_srt idsM
  have hR : (srt L).eraseIdx i = (srt (L.map (Qum.raised id p))).eraseIdx k := by
    rw [← erase_id idsA ha.1 ha.2.1, ← erase_id idsB hb.1 hb.2.1, drop_srt id ht, drop_srt id htM, drop_raised]
  have hxL : th (srt L) i ∈ L := (srt_perm L).mem_iff.1 (th_mem ha.1)
  have hyM : th (srt (L.map (Qum.raised id p))) k ∈ L.map (Qum.raised id p) := (srt_perm _).mem_iff.1 (th_mem hb.1)
  obtain ⟨y, hyL, hy⟩ := List.mem_map.1 hyM
  have hyi : y.i = id := by have := hb.2.1; rw [← hy, raised_i] at this; exact this
  have inj : ∀ x ∈ L, ∀ y ∈ L, x.i = y.i → x = y := by
    intro x hx y hy e
    refine Classical.byContradiction fun hne => ?_
    obtain ⟨a, ha, rfl⟩ := List.getElem_of_mem hx
    obtain ⟨b, hb, rfl⟩ := List.getElem_of_mem hy
    rw [List.pairwise_iff_getElem] at ids
    rcases Nat.lt_trichotomy a b with h | h | h
    · exact ids a b ha hb h e
    · subst h; exact hne rfl
    · exact ids b a hb ha h e.symm
  have tinj : ∀ x ∈ L, ∀ y ∈ L, x.t = y.t → x = y := by
    intro x hx y hy e
    refine Classical.byContradiction fun hne => ?_
    obtain ⟨a, ha, rfl⟩ := List.getElem_of_mem hx
    obtain ⟨b, hb, rfl⟩ := List.getElem_of_mem hy
    rw [List.pairwise_iff_getElem] at ht
    rcases Nat.lt_trichotomy a b with h | h | h
    · exact ht a b ha hb h e
    · subst h; exact hne rfl
    · exact ht b a hb ha h e.symm
  have hyx : y = th (srt L) i := inj y hyL _ hxL (by rw [hyi, ha.2.1])
  have hpri : priOf L id = (th (srt L) i).p := by
    have := priOf_of ids hxL
    rwa [ha.2.1] at this
  have hx' : th (srt (L.map (Qum.raised id p))) k = ⟨p, id, (th (srt L) i).t⟩ := by
    rw [← hy, hyx]
    unfold Qum.raised
    rw [if_pos ha.2.1, ha.2.1]
  refine ⟨?_, by rw [hx']⟩
  refine Classical.byContradiction fun hlt => ?_
  have hik : i < k := by omega
  have hkl := hb.1
  have e1 := th_erase (F := srt L) (i := i) (j := i) ha.1 (by omega)
  have e2 := th_erase (F := srt (L.map (Qum.raised id p))) (i := k) (j := i) hb.1 (by omega)
  rw [if_neg (by omega)] at e1
  rw [if_pos hik] at e2
  rw [hR, e2] at e1
  have s1 := srt_sorted L
  have s2 := srt_sorted (L.map (Qum.raised id p))
  rw [List.pairwise_iff_getElem] at s1 s2
  have q1 := s1 i (i + 1) ha.1 (by omega) (by omega)
  have q2 := s2 i k (by omega) hb.1 hik
  rw [← th_get ha.1, ← th_get (show i + 1 < (srt L).length by omega)] at q1
  rw [← th_get hb.1, ← th_get (show i < (srt (L.map (Qum.raised id p))).length by omega), e1, hx'] at q2
  have hzL : th (srt L) (i + 1) ∈ L := (srt_perm L).mem_iff.1 (th_mem (by omega))
  have hzne : (th (srt L) (i + 1)).t ≠ (th (srt L) i).t := fun e => by
    have := tinj _ hzL _ hxL e
    rw [List.pairwise_iff_getElem] at idsA
    have h3 := idsA i (i + 1) ha.1 (by omega) (by omega)
    rw [← th_get ha.1, ← th_get (show i + 1 < (srt L).length by omega), this] at h3
    exact h3 rfl
  rw [hpri] at hp
  simp [ltQ] at q1 q2
  omega
end Go.Proofs.Ythkhlgannimebaa.Qrm
