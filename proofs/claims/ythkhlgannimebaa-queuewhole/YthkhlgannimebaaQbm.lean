/- The law's own map of names that wait. -/
import Derived.Test.YthkhlgannimebaaQac
namespace Go.Proofs.Ythkhlgannimebaa
open Go.RowKit Go.Maps Go.Sort Qum
set_option linter.unusedSectionVars false

def boElem : Value → Option (DataW Unit × List MemPlace)
  | .bool b => some (.lit (.bool b), [])
  | _ => none
theorem boElem_inv {v : Value} {b : Bool} {ps : List MemPlace} (h : boElem v = some (.lit (.bool b), ps)) : v = .bool b := by
  unfold boElem at h
  split at h
  · simp at h; rw [h.1]
  · cases h
def dT : DataW Unit := .lit (.bool true)

theorem len_drop (id : Int) : ∀ {L : List Th}, L.Pairwise (fun x y => x.i ≠ y.i) → (L.filter fun y => !decide (y.i = id)).length + (if L.any fun y => decide (y.i = id) then 1 else 0) = L.length
  | [], _ => rfl
  | x :: r, h => by
    rw [List.pairwise_cons] at h
    have ih := len_drop id h.2
    by_cases e : x.i = id
    · have hr : (r.any fun y => decide (y.i = id)) = false := by
        rw [List.any_eq_false]
        intro y hy
        have := h.1 y hy
        simp
        omega
      rw [hr] at ih
      simp [e] at ih ⊢
      exact ih
    · simp [e] at ih ⊢
      omega

/-- The map D holds just the names of the things of the list L. -/
structure Rb (D : DataW Unit) (L : List Th) : Prop where
  tidy : Tidy D
  has : ∀ kl, Maps.has D kl = true ↔ ∃ x ∈ L, kl = ky x.i
  at_ : ∀ x ∈ L, ∀ z, D.atKey (ky x.i) z = dT
  size : Maps.size D = L.length
  ids : L.Pairwise (fun x y => x.i ≠ y.i)

theorem Rb.empty : Rb (.map []) [] := ⟨tidy_empty, fun kl => by simp [Maps.has], fun x hx => (by cases hx), rfl, .nil⟩
theorem Rb.no {D : DataW Unit} {L : List Th} (h : Rb D L) {id : Int} (hn : ∀ y ∈ L, y.i ≠ id) : Maps.has D (ky id) = false := by
  cases e : Maps.has D (ky id)
  · rfl
  · obtain ⟨x, hx, hk⟩ := (h.has _).1 e
    exact absurd (ky_inj hk).symm (hn x hx)
theorem Rb.put {D : DataW Unit} {L : List Th} (h : Rb D L) (x : Th) (hn : ∀ y ∈ L, y.i ≠ x.i) : Rb (D.put (ky x.i) dT) (L ++ [x]) := by
  have hno := h.no hn
  refine ⟨h.tidy.put (ky_key _) _, fun kl => ?_, fun y hy z => ?_, ?_, ?_⟩
  · by_cases e : kl = ky x.i
    · subst e
      rw [has_put_same h.tidy.isMap (ky_key _)]
      simp
    · rw [has_put_other e, h.has]
      simp [e]
  · rcases List.mem_append.1 hy with hy | hy
    · rw [atKey_put_other (fun e => hn y hy (ky_inj e))]
      exact h.at_ y hy z
    · obtain rfl := List.mem_singleton.1 hy
      exact atKey_put_same h.tidy.isMap (ky_key _) _ _
  · rw [size_put h.tidy, hno, h.size]
    simp
  · rw [List.pairwise_append]
    exact ⟨h.ids, by simp, fun y hy z hz => by obtain rfl := List.mem_singleton.1 hz; exact hn y hy⟩
theorem Rb.any {D : DataW Unit} {L : List Th} (h : Rb D L) (id : Int) : Maps.has D (ky id) = hasId L id := by
  unfold hasId
  rw [Bool.eq_iff_iff, h.has, List.any_eq_true]
  constructor
  · rintro ⟨x, hx, e⟩
    exact ⟨x, hx, by simpa using (ky_inj e).symm⟩
  · rintro ⟨x, hx, e⟩
    exact ⟨x, hx, by simp at e; rw [e]⟩
theorem Rb.del {D : DataW Unit} {L : List Th} (h : Rb D L) (id : Int) : Rb (D.del (ky id)) (dropId L id) := by
  unfold dropId
  refine ⟨h.tidy.del _, fun kl => ?_, fun y hy z => ?_, ?_, h.ids.filter _⟩
  · by_cases e : kl = ky id
    · subst e
      rw [has_del_same]
      simp
      intro x _ hne e
      exact hne (ky_inj e).symm
    · rw [has_del_other e, h.has]
      simp
      constructor
      · rintro ⟨x, hx, rfl⟩
        exact ⟨x, ⟨hx, fun e1 => e (by rw [e1])⟩, rfl⟩
      · rintro ⟨x, ⟨hx, _⟩, rfl⟩
        exact ⟨x, hx, rfl⟩
  · obtain ⟨hy, hne⟩ := List.mem_filter.1 hy
    rw [atKey_del_other (fun e => by simp at hne; exact hne (ky_inj e))]
    exact h.at_ y hy z
  · have e1 := size_del (k := ky id) h.tidy
    have e2 := len_drop id h.ids
    rw [h.size, h.any id] at e1
    unfold hasId at e1
    omega
theorem Rb.raised {D : DataW Unit} {L : List Th} (h : Rb D L) (id p : Int) : Rb D (L.map (Qum.raised id p)) := by
  refine ⟨h.tidy, fun kl => ?_, fun x hx z => ?_, by simp [h.size], ?_⟩
  · rw [h.has]
    constructor
    · rintro ⟨x, hx, rfl⟩
      exact ⟨Qum.raised id p x, List.mem_map.2 ⟨x, hx, rfl⟩, by rw [raised_i]⟩
    · rintro ⟨x, hx, rfl⟩
      obtain ⟨y, hy, rfl⟩ := List.mem_map.1 hx
      exact ⟨y, hy, by rw [raised_i]⟩
  · obtain ⟨y, hy, rfl⟩ := List.mem_map.1 hx
    rw [raised_i]
    exact h.at_ y hy z
  · simp only [List.pairwise_map, raised_i]; exact h.ids

/-- The map in the block wm. -/
def Wb (w : World) (wm : Nat) (L : List Th) : Prop := ∃ D, w.ownsMap Try.prog 3 boElem wm L.length D ∧ Rb D L
theorem Wb.lt {w : World} {wm : Nat} {L : List Th} (h : Wb w wm L) : wm < w.heap.size := by obtain ⟨D, ho, _⟩ := h; exact ho.lt
theorem Wb.tag {w : World} {wm : Nat} {L : List Th} (h : Wb w wm L) : tagd w wm = false := by
  obtain ⟨D, ⟨es, clock, hb, r⟩, _⟩ := h
  simp [tagd, hb]
theorem Wb.kept {w w' : World} {wm : Nat} {L : List Th} (h : Wb w wm L) (hm : w'.heap[wm]? = w.heap[wm]?) : Wb w' wm L := by
  obtain ⟨D, ⟨es, clock, hb, r⟩, hr⟩ := h
  exact ⟨D, ⟨es, clock, hm.trans hb, r⟩, hr⟩
theorem Wb.below {w w' : World} {wm B : Nat} {L : List Th} (h : Wb w wm L) (hb : Below B w w') (h2 : wm < B) : Wb w' wm L := h.kept (hb.block wm h2)
theorem Wb.alloc {w : World} {wm : Nat} {L : List Th} (h : Wb w wm L) (o : Obj) : Wb (w.alloc o) wm L := h.kept (Below.heap_alloc w o wm h.lt)
theorem Wb.fq {w w' : World} {wm B bm : Nat} {L : List Th} (h : Wb w wm L) (hF : Fq B (some bm) w w') (hne : wm ≠ bm) : Wb w' wm L := h.kept (hF.oth wm h.lt (fun e => hne (by cases e; rfl)) h.tag)
theorem owns_size3 {w : World} {b n : Nat} {D : DataW Unit} (h : w.ownsMap Try.prog 3 boElem b n D) : w.ownsMap Try.prog 3 boElem b (Maps.size D) D := by
  obtain ⟨es, clock, hb, F, hs, rfl⟩ := h
  exact ⟨es, clock, hb, F, by simp [Maps.size, length_sorted], rfl⟩
theorem Wb_of {w : World} {wm n : Nat} {L : List Th} {D : DataW Unit} (ho : w.ownsMap Try.prog 3 boElem wm n D) (hr : Rb D L) : Wb w wm L := by
  have := owns_size3 ho
  rw [hr.size] at this
  exact ⟨D, this, hr⟩
theorem zeroB (w : World) : (zeroValue 4).run Try.prog w = .ok (.bool false) w := by kernel_rfl
theorem Wb.look {w : World} {wm : Nat} {L : List Th} (h : Wb w wm L) {id : Int} (wi : (Lit.int .i64 id).wf = true) : (Instr.lookup 40 (.map (some wm)) (.int .i64 id) false).run Try.prog w = .ok (.bool (hasId L id)) w := by
  obtain ⟨D, ho, hr⟩ := h
  obtain ⟨v, ps, hrun, hv⟩ := ho.lookup lawK Try.underlying40 (zeroB w) (zd := .lit (.bool false)) (zp := []) rfl (keyOf_int_mk Try.underlying3 wi)
  rw [hrun]
  cases e : hasId L id
  · have hno : Maps.has D (ky id) = false := by rw [hr.any, e]
    have : D.atKey (Lit.int .i64 id) (.lit (.bool false)) = .lit (.bool false) := atKey_of_not_has hno _
    rw [this] at hv
    rw [boElem_inv hv]
  · obtain ⟨y, hy, rfl⟩ := hasId_true e
    have : D.atKey (Lit.int .i64 y.i) (.lit (.bool false)) = dT := hr.at_ y hy _
    rw [this] at hv
    rw [boElem_inv hv]
end Go.Proofs.Ythkhlgannimebaa
