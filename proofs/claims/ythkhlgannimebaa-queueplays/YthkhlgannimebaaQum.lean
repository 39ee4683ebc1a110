/- The plain mathematics of the queue: things and who of them is first, a heap as a row of places, what raising and sinking one leaves of it, a map of things, and the row of all that wait. No program is named here. -/
import Derived.Maps.RangeWalk
import Derived.Maps.OwnSet
import Derived.Sort.LotA
namespace Go.Proofs.Ythkhlgannimebaa.Qum
open Go Go.Maps

/-- A thing: its prio, its name, its turn. -/
structure Th where
  p : Int
  i : Int
  t : Int

/-- A thing and the block in which it lies. -/
structure Nd where
  b : Nat
  x : Th

def nd (H : List Nd) (k : Nat) : Nd := H.getD k ⟨0, ⟨0, 0, 0⟩⟩
theorem nd_get {H : List Nd} {k : Nat} (hk : k < H.length) : nd H k = H[k] := by simp [nd, hk]
theorem nd_mem {H : List Nd} {k : Nat} (hk : k < H.length) : nd H k ∈ H := by rw [nd_get hk]; exact List.getElem_mem hk
theorem nd_of_mem {H : List Nd} {y : Nd} (hy : y ∈ H) : ∃ k, k < H.length ∧ nd H k = y := by
  obtain ⟨k, hk, e⟩ := List.getElem_of_mem hy
  exact ⟨k, hk, by rw [nd_get hk, e]⟩

/-- First: by the prio, then by the turn. -/
def ltQ (x y : Th) : Bool := decide (y.p < x.p ∨ (x.p = y.p ∧ x.t < y.t))
theorem swoQ : Sort.SWO ltQ where
  irrefl x := by simp [ltQ]
  trans x y z h1 h2 := by simp [ltQ] at *; omega
  ntrans x y z h1 h2 := by simp [ltQ] at *; omega

/- The heap, by its places alone. -/
def HpF (f : Nat → Th) (n : Nat) : Prop := ∀ k, 0 < k → k < n → ltQ (f k) (f ((k - 1) / 2)) = false
def UpF (f : Nat → Th) (n j : Nat) : Prop := (∀ k, 0 < k → k < n → k ≠ j → ltQ (f k) (f ((k - 1) / 2)) = false) ∧ (∀ k, 0 < k → k < n → (k - 1) / 2 = j → 0 < j → ltQ (f k) (f ((j - 1) / 2)) = false)
def FxF (f : Nat → Th) (n i : Nat) : Prop := (∀ k, 0 < k → k < n → k ≠ i → (k - 1) / 2 ≠ i → ltQ (f k) (f ((k - 1) / 2)) = false) ∧ (∀ k, 0 < k → k < n → (k - 1) / 2 = i → 0 < i → ltQ (f k) (f ((i - 1) / 2)) = false)
def DnF (f : Nat → Th) (n i0 i : Nat) : Prop := FxF f n i ∧ i0 ≤ i ∧ (i0 < i → ltQ (f i) (f ((i - 1) / 2)) = false)

theorem up_zero {f : Nat → Th} {n : Nat} (h : UpF f n 0) : HpF f n := fun k h0 hk => h.1 k h0 hk (by omega)
theorem up_done {f : Nat → Th} {n j : Nat} (h : UpF f n j) (hl : ltQ (f j) (f ((j - 1) / 2)) = false) : HpF f n := fun k h0 hk => by
  by_cases e : k = j
  · subst e; exact hl
  · exact h.1 k h0 hk e
theorem up_step {f f' : Nat → Th} {n j i : Nat} (h : UpF f n j) (hj : j < n) (hj0 : 0 < j) (hi : (j - 1) / 2 = i) (hl : ltQ (f j) (f i) = true) (e1 : f' i = f j) (e2 : f' j = f i) (e3 : ∀ k, k < n → k ≠ i → k ≠ j → f' k = f k) : UpF f' n i := by
  have hij : i < j := by omega
  constructor
  · intro k h0 hk hki
    by_cases hkj : k = j
    · subst hkj
      rw [hi, e2, e1]
      simp [ltQ] at *
      omega
    · rw [e3 k hk hki hkj]
      by_cases p1 : (k - 1) / 2 = j
      · rw [p1, e2]
        have := h.2 k h0 hk p1 hj0
        rwa [hi] at this
      · by_cases p2 : (k - 1) / 2 = i
        · rw [p2, e1]
          have := h.1 k h0 hk hkj
          rw [p2] at this
          simp [ltQ] at *
          omega
        · rw [e3 _ (by omega) p2 p1]
          exact h.1 k h0 hk hkj
  · intro k h0 hk hp hi0
    have ep : f' ((i - 1) / 2) = f ((i - 1) / 2) := e3 _ (by omega) (by omega) (by omega)
    rw [ep]
    have hq := h.1 i hi0 (by omega) (by omega)
    by_cases hkj : k = j
    · subst hkj
      rw [e2]
      exact hq
    · rw [e3 k hk (by omega) hkj]
      have := h.1 k h0 hk hkj
      rw [hp] at this
      simp [ltQ] at *
      omega

theorem dn_step {f f' : Nat → Th} {n i0 i j : Nat} (h : DnF f n i0 i) (hj : j < n) (hj0 : 0 < j) (hi : (j - 1) / 2 = i) (hm : ∀ k, 0 < k → k < n → (k - 1) / 2 = i → ltQ (f k) (f j) = false) (hl : ltQ (f j) (f i) = true) (e1 : f' i = f j) (e2 : f' j = f i) (e3 : ∀ k, k < n → k ≠ i → k ≠ j → f' k = f k) : DnF f' n i0 j := by
  have hij : i < j := by omega
  refine ⟨⟨?_, ?_⟩, by have := h.2.1; omega, ?_⟩
  · intro k h0 hk hkj hpj
    by_cases hki : k = i
    · subst hki
      rw [e1, e3 _ (by omega) (by omega) (by omega)]
      exact h.1.2 j hj0 hj hi h0
    · rw [e3 k hk hki hkj]
      by_cases hp : (k - 1) / 2 = i
      · rw [hp, e1]
        exact hm k h0 hk hp
      · rw [e3 _ (by omega) hp hpj]
        exact h.1.1 k h0 hk hki hp
  · intro k h0 hk hp _
    rw [hi, e1, e3 k hk (by omega) (by omega)]
    have := h.1.1 k h0 hk (by omega) (by omega)
    rwa [hp] at this
  · intro _
    rw [hi, e1, e2]
    simp [ltQ] at *
    omega
theorem dn_moved {f : Nat → Th} {n i0 i : Nat} (h : DnF f n i0 i) (hi : i0 < i) (hm : ∀ k, 0 < k → k < n → (k - 1) / 2 = i → ltQ (f k) (f i) = false) : HpF f n := by
  intro k h0 hk
  by_cases e : k = i
  · subst e; exact h.2.2 hi
  · by_cases p : (k - 1) / 2 = i
    · rw [p]; exact hm k h0 hk p
    · exact h.1.1 k h0 hk e p
theorem dn_still {f : Nat → Th} {n i0 i : Nat} (h : DnF f n i0 i) (hi : i = i0) (hm : ∀ k, 0 < k → k < n → (k - 1) / 2 = i → ltQ (f k) (f i) = false) : UpF f n i0 := by
  subst hi
  refine ⟨fun k h0 hk e => ?_, h.1.2⟩
  by_cases p : (k - 1) / 2 = i
  · rw [p]; exact hm k h0 hk p
  · exact h.1.1 k h0 hk e p
theorem fx_of_hp {f f' : Nat → Th} {m n i : Nat} (h : HpF f m) (hn : n ≤ m) (hi : i < m) (e : ∀ k, k < n → k ≠ i → f' k = f k) : FxF f' n i := by
  refine ⟨fun k h0 hk hki hp => ?_, fun k h0 hk hp hi0 => ?_⟩
  · rw [e k hk hki, e _ (by omega) hp]
    exact h k h0 (by omega)
  · rw [e k hk (by omega), e _ (by omega) (by omega)]
    have h1 := h k h0 (by omega)
    have h2 := h i hi0 hi
    rw [hp] at h1
    simp [ltQ] at *
    omega
theorem dn_start {f : Nat → Th} {n i : Nat} (h : FxF f n i) : DnF f n i i := ⟨h, Nat.le_refl _, fun hl => absurd hl (Nat.lt_irrefl _)⟩
theorem up_push {f f' : Nat → Th} {n : Nat} (h : HpF f n) (e : ∀ k, k < n → f' k = f k) : UpF f' (n + 1) n := by
  refine ⟨fun k h0 hk hki => ?_, fun k h0 hk hp hi0 => ?_⟩
  · rw [e k (by omega), e _ (by omega)]
    exact h k h0 (by omega)
  · omega
theorem hp_root {f : Nat → Th} {n : Nat} (h : HpF f n) (k : Nat) : k < n → ltQ (f k) (f 0) = false := by
  induction k using Nat.strongRecOn with
  | ind k ih =>
    intro hk
    by_cases h0 : k = 0
    · subst h0; simp [ltQ]
    · have h2 := ih ((k - 1) / 2) (by omega) (by omega)
      have h1 := h k (by omega) hk
      simp [ltQ] at *
      omega

def fx (H : List Nd) (k : Nat) : Th := (nd H k).x
def swq (H : List Nd) (i j : Nat) : List Nd := (H.set i (nd H j)).set j (nd H i)
theorem swq_len (H : List Nd) (i j : Nat) : (swq H i j).length = H.length := by simp [swq]
theorem nd_set {H : List Nd} {i : Nat} (hi : i < H.length) (y : Nd) (k : Nat) : nd (H.set i y) k = if k = i then y else nd H k := by
  unfold nd
  simp only [List.getD_eq_getElem?_getD, List.getElem?_set]
  by_cases e : k = i
  · subst e; simp [hi]
  · simp [e, Ne.symm e]
theorem nd_swq {H : List Nd} {i j : Nat} (hi : i < H.length) (hj : j < H.length) (k : Nat) : nd (swq H i j) k = if k = j then nd H i else if k = i then nd H j else nd H k := by
  unfold swq
  rw [nd_set (by simpa using hj), nd_set hi]
theorem swq_perm {H : List Nd} {i j : Nat} (hi : i < H.length) (hj : j < H.length) : (swq H i j).Perm H := by
  unfold swq
  rw [nd_get hi, nd_get hj]
  exact List.set_set_perm hi hj

def Hp (H : List Nd) (n : Nat) : Prop := HpF (fx H) n

/- A map of things: their names, and the blocks where they lie. -/
def dP (b : Nat) : DataW Unit := .lit (.int .i64 b)
def ky (i : Int) : Lit := .int .i64 i
def ptV (b : Nat) : Value := .pointer (some ⟨b, 0, none⟩)
def ptElem : Value → Option (DataW Unit × List MemPlace)
  | .pointer none => some (.nil, [])
  | .pointer (some ⟨b, 0, none⟩) => some (dP b, [])
  | _ => none
theorem ptElem_mk (b : Nat) : ptElem (ptV b) = some (dP b, []) := rfl
theorem dP_inj {x y : Nat} (h : dP x = dP y) : x = y := by simp [dP] at h; omega
theorem ptElem_inv {v : Value} {b : Nat} {ps : List MemPlace} (h : ptElem v = some (dP b, ps)) : v = ptV b := by
  unfold ptElem at h
  split at h
  · simp [dP] at h
  · rename_i b'
    simp [dP] at h
    have e : b' = b := by omega
    rw [ptV, e]
  · cases h
theorem ptElem_some {v : Value} {z : DataW Unit × List MemPlace} (h : ptElem v = some z) : ∃ a, v = .pointer a := by
  unfold ptElem at h
  split at h
  · exact ⟨_, rfl⟩
  · exact ⟨_, rfl⟩
  · cases h
theorem ky_inj {x y : Int} (h : ky x = ky y) : x = y := by simpa [ky] using h
theorem ky_key (i : Int) : WideAt.IsKeyLit (ky i) := trivial
theorem same_ky {x : Lit} {i : Int} : x.sameKey (ky i) = true ↔ x = ky i := by
  constructor
  · intro h
    refine Classical.byContradiction fun hn => ?_
    rw [sameKey_ne hn] at h
    cases h
  · rintro rfl
    exact WideAt.sameKey_self (ky_key i)

/-- The map D holds just the things of the list L. -/
structure Rep (D : DataW Unit) (L : List Nd) : Prop where
  tidy : Tidy D
  has : ∀ kl, Maps.has D kl = true ↔ ∃ y ∈ L, kl = ky y.x.i
  at_ : ∀ y ∈ L, ∀ z, D.atKey (ky y.x.i) z = dP y.b
  size : Maps.size D = L.length
  ids : L.Pairwise (fun x y => x.x.i ≠ y.x.i)

theorem Rep.empty : Rep (.map []) [] := ⟨tidy_empty, fun kl => by simp [Maps.has], fun x hx => (by cases hx), rfl, .nil⟩
theorem Rep.perm {D : DataW Unit} {L M : List Nd} (h : Rep D L) (hp : L.Perm M) : Rep D M :=
  ⟨h.tidy, fun kl => by rw [h.has]; exact ⟨fun ⟨y, hy, e⟩ => ⟨y, hp.mem_iff.1 hy, e⟩, fun ⟨y, hy, e⟩ => ⟨y, hp.mem_iff.2 hy, e⟩⟩, fun y hy => h.at_ y (hp.mem_iff.2 hy), by rw [h.size, hp.length_eq], (hp.pairwise_iff (fun hne e => hne e.symm)).1 h.ids⟩

/-- Other things of the same names in the same blocks: the same map. -/
theorem Rep.set {D : DataW Unit} {L : List Nd} (h : Rep D L) {k : Nat} (hk : k < L.length) {y : Nd} (hi : y.x.i = (nd L k).x.i) (hb : y.b = (nd L k).b) : Rep D (L.set k y) := by
  have hm : ∀ z, z ∈ L.set k y → ∃ z' ∈ L, z'.x.i = z.x.i ∧ z'.b = z.b := by
    intro z hz
    rcases List.mem_or_eq_of_mem_set hz with hz | rfl
    · exact ⟨z, hz, rfl, rfl⟩
    · exact ⟨_, nd_mem hk, hi.symm, hb.symm⟩
  have hm' : ∀ z ∈ L, ∃ z' ∈ L.set k y, z'.x.i = z.x.i ∧ z'.b = z.b := by
    intro z hz
    obtain ⟨l, hl, rfl⟩ := nd_of_mem hz
    have hl' : l < (L.set k y).length := by simpa using hl
    refine ⟨nd (L.set k y) l, nd_mem hl', ?_⟩
    rw [nd_set hk]
    split
    · rename_i e; subst e; exact ⟨hi, hb⟩
    · exact ⟨rfl, rfl⟩
  refine ⟨h.tidy, fun kl => ?_, fun z hz w => ?_, by simp [h.size], ?_⟩
  · rw [h.has]
    constructor
    · rintro ⟨z, hz, rfl⟩
      obtain ⟨z', hz', e, _⟩ := hm' z hz
      exact ⟨z', hz', by rw [e]⟩
    · rintro ⟨z, hz, rfl⟩
      obtain ⟨z', hz', e, _⟩ := hm z hz
      exact ⟨z', hz', by rw [e]⟩
  · obtain ⟨z', hz', e1, e2⟩ := hm z hz
    rw [← e1, ← e2]
    exact h.at_ z' hz' w
  · have hids := h.ids
    rw [List.pairwise_iff_getElem] at hids ⊢
    intro a b ha hb' hab
    have ha' : a < L.length := by simpa using ha
    have hb2 : b < L.length := by simpa using hb'
    have e1 := nd_set hk y a
    have e2 := nd_set hk y b
    rw [nd_get ha] at e1
    rw [nd_get hb'] at e2
    rw [e1, e2]
    have := hids a b ha' hb2 hab
    rw [← nd_get ha', ← nd_get hb2] at this
    split
    · rename_i ea
      split
      · omega
      · rw [hi, ← ea]; exact this
    · split
      · rename_i eb; rw [hi, ← eb]; exact this
      · exact this

theorem Rep.no {D : DataW Unit} {L : List Nd} (h : Rep D L) {id : Int} (hn : ∀ y ∈ L, y.x.i ≠ id) : Maps.has D (ky id) = false := by
  cases e : Maps.has D (ky id)
  · rfl
  · obtain ⟨x, hx, hk⟩ := (h.has _).1 e
    exact absurd (ky_inj hk).symm (hn x hx)
theorem Rep.yes {D : DataW Unit} {L : List Nd} (h : Rep D L) {id : Int} {x : Nd} (hx : x ∈ L) (hi : x.x.i = id) : Maps.has D (ky id) = true := (h.has _).2 ⟨x, hx, by rw [hi]⟩

theorem Rep.put {D : DataW Unit} {L : List Nd} (h : Rep D L) (x : Nd) (hn : ∀ y ∈ L, y.x.i ≠ x.x.i) : Rep (D.put (ky x.x.i) (dP x.b)) (L ++ [x]) := by
  have hno := h.no hn
  refine ⟨h.tidy.put (ky_key _) _, fun kl => ?_, fun y hy z => ?_, ?_, ?_⟩
  · by_cases e : kl = ky x.x.i
    · subst e
      rw [has_put_same h.tidy.isMap (ky_key _)]
      simp
    · rw [has_put_other e, h.has]
      simp [e]
  · rcases List.mem_append.1 hy with hy | hy
    · rw [atKey_put_other (fun e => hn y hy (ky_inj e))]
      exact h.at_ y hy z
    · obtain rfl := List.mem_singleton.1 hy
      exact atKey_put_same h.tidy.isMap (ky_key _) _ _
  · rw [size_put h.tidy, hno, h.size]
    simp
  · rw [List.pairwise_append]
    exact ⟨h.ids, by simp, fun y hy z hz => by obtain rfl := List.mem_singleton.1 hz; exact hn y hy⟩

theorem Rep.cons_del {D : DataW Unit} {x : Nd} {L : List Nd} (h : Rep D (x :: L)) : Rep (D.del (ky x.x.i)) L := by
  have hids := List.pairwise_cons.1 h.ids
  refine ⟨h.tidy.del _, fun kl => ?_, fun y hy z => ?_, ?_, hids.2⟩
  · by_cases e : kl = ky x.x.i
    · subst e
      rw [has_del_same]
      simp
      intro y hy e
      exact hids.1 y hy (ky_inj e)
    · rw [has_del_other e, h.has]
      simp [e]
  · rw [atKey_del_other (fun e => hids.1 y hy (ky_inj e).symm)]
    exact h.at_ y (List.mem_cons_of_mem _ hy) z
  · have e1 := size_del (k := ky x.x.i) h.tidy
    have e2 := h.yes (List.mem_cons_self) rfl
    rw [h.size, e2] at e1
    simp at e1
    omega

/- The row. -/
def srt (l : List Th) : List Th := l.mergeSort fun x y => !ltQ y x
theorem srt_perm (l : List Th) : (srt l).Perm l := List.mergeSort_perm _ _
theorem srt_len (l : List Th) : (srt l).length = l.length := (srt_perm l).length_eq
theorem srt_sorted (l : List Th) : (srt l).Pairwise (fun x y => ltQ y x = false) := by
  have := List.pairwise_mergeSort (le := fun x y => !ltQ y x) (fun a b c h1 h2 => by simp [ltQ] at *; omega) (fun a b => by simp [ltQ]; omega) l
  exact this.imp fun h => by simpa using h
theorem srt_unique {l l' : List Th} (hp : l'.Perm l) (hs : l'.Pairwise (fun x y => ltQ y x = false)) (ht : l.Pairwise (fun x y => x.t ≠ y.t)) : l' = srt l := by
  have inj : ∀ x ∈ l, ∀ y ∈ l, x.t = y.t → x = y := by
    intro x hx y hy e
    refine Classical.byContradiction fun hne => ?_
    obtain ⟨i, hi, rfl⟩ := List.getElem_of_mem hx
    obtain ⟨j, hj, rfl⟩ := List.getElem_of_mem hy
    rw [List.pairwise_iff_getElem] at ht
    rcases Nat.lt_trichotomy i j with h | h | h
    · exact ht i j hi hj h e
    · subst h; exact hne rfl
    · exact ht j i hj hi h e.symm
  refine List.Perm.eq_of_pairwise (le := fun x y => ltQ y x = false) ?_ hs (srt_sorted l) (hp.trans (srt_perm l).symm)
  intro a b ha hb h1 h2
  refine inj a (hp.mem_iff.1 ha) b ((srt_perm l).mem_iff.1 hb) ?_
  simp [ltQ] at h1 h2
  omega
theorem srt_first {l r : List Th} {x : Th} (hp : (x :: r).Perm l) (hm : ∀ y ∈ l, ltQ y x = false) (ht : l.Pairwise (fun x y => x.t ≠ y.t)) : srt l = x :: srt r := by
  refine (srt_unique ((List.Perm.cons x (srt_perm r)).trans hp) ?_ ht).symm
  rw [List.pairwise_cons]
  exact ⟨fun y hy => hm y (hp.mem_iff.1 (List.mem_cons_of_mem _ ((srt_perm r).mem_iff.1 hy))), srt_sorted r⟩
theorem srt_eq {l l' : List Th} (hp : l'.Perm l) (ht : l.Pairwise (fun x y => x.t ≠ y.t)) : srt l' = srt l := srt_unique ((srt_perm l').trans hp) (srt_sorted l') ht

/-- A queue: the turns that it has given, its things in the order in which they came. -/
structure Qu where
  turns : Int
  L : List Th

/-- What holds of a queue behind at most k calls. -/
structure Ok (k : Nat) (S : Qu) : Prop where
  ids : S.L.Pairwise (fun x y => x.i ≠ y.i)
  tns : S.L.Pairwise (fun x y => x.t < y.t)
  tlt : ∀ x ∈ S.L, x.t < S.turns
  len : S.L.length ≤ 200
  trn0 : 0 ≤ S.turns
  trnk : S.turns ≤ k

def hasId (L : List Th) (id : Int) : Bool := L.any fun x => decide (x.i = id)
def dropId (L : List Th) (id : Int) : List Th := L.filter fun x => !decide (x.i = id)
def raised (id p : Int) (x : Th) : Th := if x.i = id then ⟨p, x.i, x.t⟩ else x
def priOf (L : List Th) (id : Int) : Int := match L.find? fun x => decide (x.i = id) with | some x => x.p | none => 0
def putE (S : Qu) (id : Int) : Int := if hasId S.L id = true then 6 else if 200 ≤ S.L.length then 7 else 0
def putS (S : Qu) (p id : Int) : Qu := if putE S id = 0 then ⟨S.turns + 1, S.L ++ [⟨p, id, S.turns⟩]⟩ else S
def drpE (S : Qu) (id : Int) : Int := if hasId S.L id = true then 0 else 5
def drpS (S : Qu) (id : Int) : Qu := ⟨S.turns, dropId S.L id⟩
def raiE (S : Qu) (id p : Int) : Int := if hasId S.L id = true then (if p < priOf S.L id then 1 else 0) else 5
def raiS (S : Qu) (id p : Int) : Qu := if raiE S id p = 0 then ⟨S.turns, S.L.map (raised id p)⟩ else S

theorem hasId_false {L : List Th} {id : Int} (h : hasId L id = false) : ∀ y ∈ L, y.i ≠ id := by
  intro y hy e
  unfold hasId at h
  rw [List.any_eq_false] at h
  exact h y hy (by simpa using e)
theorem hasId_true {L : List Th} {id : Int} (h : hasId L id = true) : ∃ y ∈ L, y.i = id := by
  unfold hasId at h
  rw [List.any_eq_true] at h
  obtain ⟨y, hy, e⟩ := h
  exact ⟨y, hy, by simpa using e⟩
theorem hasId_of {L : List Th} {y : Th} (hy : y ∈ L) : hasId L y.i = true := by
  unfold hasId
  rw [List.any_eq_true]
  exact ⟨y, hy, by simp⟩
theorem hasId_perm {L M : List Th} (h : L.Perm M) (id : Int) : hasId L id = hasId M id := by
  unfold hasId
  rw [Bool.eq_iff_iff, List.any_eq_true, List.any_eq_true]
  exact ⟨fun ⟨y, hy, e⟩ => ⟨y, h.mem_iff.1 hy, e⟩, fun ⟨y, hy, e⟩ => ⟨y, h.mem_iff.2 hy, e⟩⟩
theorem dropId_none {L : List Th} {id : Int} (h : hasId L id = false) : dropId L id = L := by
  unfold dropId
  rw [List.filter_eq_self]
  intro y hy
  have := hasId_false h y hy
  simpa using this
theorem dropId_cons {r : List Th} {x : Th} (h : ∀ y ∈ r, x.i ≠ y.i) : dropId (x :: r) x.i = r := by
  unfold dropId
  simp
  intro y hy e
  exact h y hy e.symm
theorem dropId_perm {L M : List Th} (h : L.Perm M) (id : Int) : (dropId L id).Perm (dropId M id) := h.filter _
theorem priOf_of {L : List Th} {x : Th} (ids : L.Pairwise (fun x y => x.i ≠ y.i)) (hx : x ∈ L) : priOf L x.i = x.p := by
  induction L with
  | nil => cases hx
  | cons y r ih =>
    rw [List.pairwise_cons] at ids
    unfold priOf at *
    rcases List.mem_cons.1 hx with rfl | hx
    · simp
    · have hne := ids.1 x hx
      rw [List.find?_cons_of_neg (by simpa using hne)]
      exact ih ids.2 hx

theorem Ok.new (k : Nat) : Ok k ⟨0, []⟩ := ⟨.nil, .nil, fun _ h => (by cases h), by simp, by simp, by simp⟩
theorem Ok.mono {k k' : Nat} {S : Qu} (h : Ok k S) (hk : k ≤ k') : Ok k' S := ⟨h.ids, h.tns, h.tlt, h.len, h.trn0, by have := h.trnk; omega⟩
theorem Ok.put {k : Nat} {S : Qu} (h : Ok k S) (p id : Int) : Ok (k + 1) (putS S p id) := by
  unfold putS
  split
  · rename_i he
    unfold putE at he
    split at he
    · cases he
    · split at he
      · cases he
      · rename_i h3 h4
        have hn := hasId_false (by simpa using h3)
        have := h.trnk
        have := h.trn0
        refine ⟨?_, ?_, ?_, ?_, by simp only []; omega, by simp only []; omega⟩
        · simp only []
          rw [List.pairwise_append]
          exact ⟨h.ids, by simp, fun y hy z hz => by obtain rfl := List.mem_singleton.1 hz; exact hn y hy⟩
        · simp only []
          rw [List.pairwise_append]
          exact ⟨h.tns, by simp, fun y hy z hz => by obtain rfl := List.mem_singleton.1 hz; exact h.tlt y hy⟩
        · simp only []
          intro x hx
          rcases List.mem_append.1 hx with hx | hx
          · have := h.tlt x hx; omega
          · obtain rfl := List.mem_singleton.1 hx; simp only []; omega
        · simp; omega
  · exact h.mono (by omega)
theorem Ok.drp {k : Nat} {S : Qu} (h : Ok k S) (id : Int) : Ok k (drpS S id) :=
  ⟨h.ids.filter _, h.tns.filter _, fun x hx => h.tlt x (List.mem_filter.1 hx).1, Nat.le_trans (List.length_filter_le _ _) h.len, h.trn0, h.trnk⟩
theorem raised_i (id p : Int) (x : Th) : (raised id p x).i = x.i := by unfold raised; split <;> rfl
theorem raised_t (id p : Int) (x : Th) : (raised id p x).t = x.t := by unfold raised; split <;> rfl
theorem Ok.rai {k : Nat} {S : Qu} (h : Ok k S) (id p : Int) : Ok k (raiS S id p) := by
  unfold raiS
  split
  · refine ⟨?_, ?_, ?_, by simpa using h.len, h.trn0, h.trnk⟩
    · simp only [List.pairwise_map, raised_i]; exact h.ids
    · simp only [List.pairwise_map, raised_t]; exact h.tns
    · intro x hx
      obtain ⟨y, hy, rfl⟩ := List.mem_map.1 hx
      rw [raised_t]
      exact h.tlt y hy
  · exact h
theorem Ok.tne {k : Nat} {S : Qu} (h : Ok k S) : S.L.Pairwise (fun x y => x.t ≠ y.t) := h.tns.imp fun h => by omega

/-- The cells of a row of items. -/
def flatI (l : List Th) : List Value := l.flatMap fun x => [.int .i64 x.p, .int .i64 x.i]
theorem flatI_len (l : List Th) : (flatI l).length = l.length * 2 := by
  induction l with
  | nil => rfl
  | cons x r ih => simp [flatI] at ih ⊢; omega
theorem flatI_snoc (l : List Th) (x : Th) : flatI (l ++ [x]) = flatI l ++ [.int .i64 x.p, .int .i64 x.i] := by simp [flatI]
def th (l : List Th) (k : Nat) : Th := l.getD k ⟨0, 0, 0⟩
theorem th_get {l : List Th} {k : Nat} (hk : k < l.length) : th l k = l[k] := by simp [th, hk]
theorem th_mem {l : List Th} {k : Nat} (hk : k < l.length) : th l k ∈ l := by rw [th_get hk]; exact List.getElem_mem hk
theorem flatI_get {l : List Th} {j : Nat} (hj : j < l.length) : (flatI l)[j * 2]? = some (.int .i64 (th l j).p) ∧ (flatI l)[j * 2 + 1]? = some (.int .i64 (th l j).i) := by
  induction l generalizing j with
  | nil => cases hj
  | cons x r ih =>
    cases j with
    | zero => exact ⟨rfl, rfl⟩
    | succ j =>
      have := ih (j := j) (by simpa using hj)
      have e : flatI (x :: r) = .int .i64 x.p :: .int .i64 x.i :: flatI r := rfl
      rw [e, show (j + 1) * 2 = j * 2 + 1 + 1 by omega]
      simpa [th] using this
theorem take_snoc {F : List Th} {j : Nat} (hj : j < F.length) : F.take (j + 1) = F.take j ++ [th F j] := by
  rw [th_get hj, List.take_append_getElem]
end Go.Proofs.Ythkhlgannimebaa.Qum
