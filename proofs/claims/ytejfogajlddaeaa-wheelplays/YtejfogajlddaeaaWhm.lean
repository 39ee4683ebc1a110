/- The plain mathematics of timers that the walks of this seat lean on: a timer's value, a map of timers as a list, what a loop over the map has met, the order of the timers, and what a wheel's calls do to its list. No program is named here. -/
import Derived.Maps.RangeWalk
import Derived.Maps.OwnSet
import Derived.Sort.LotA
namespace Go.Proofs.Ytejfogajlddaeaa.Whm
open Go Go.Maps

/-- A timer: its time, its name, its turn. -/
structure Tm where
  a : Int
  i : Int
  t : Int

set_option linter.unusedSectionVars false
variable [Inhabited Tm]

def encT (x : Tm) : List Value := [.int .i64 x.a, .int .i64 x.i, .int .i64 x.t]
def valT (x : Tm) : Value := .agg #[.int .i64 x.a, .int .i64 x.i, .int .i64 x.t]
def dT (x : Tm) : DataW Unit := .agg [.lit (.int .i64 x.a), .lit (.int .i64 x.i), .lit (.int .i64 x.t)]
def ky (i : Int) : Lit := .int .i64 i

/-- How an element of the map of timers reads. -/
def tmElem : Value → Option (DataW Unit × List MemPlace)
  | .agg cs => match cs.toList with
    | [.int .i64 a, .int .i64 i, .int .i64 t] => some (dT ⟨a, i, t⟩, [])
    | _ => none
  | _ => none
theorem tmElem_mk (x : Tm) : tmElem (valT x) = some (dT x, []) := rfl
theorem tmElem_inv {v : Value} {z : DataW Unit × List MemPlace} (h : tmElem v = some z) : ∃ x, v = valT x ∧ z = (dT x, []) := by
  unfold tmElem at h
  split at h
  · rename_i cs
    split at h
    · rename_i a i t he
      cases h
      refine ⟨⟨a, i, t⟩, ?_, rfl⟩
      unfold valT
      obtain ⟨l⟩ := cs
      simp at he
      rw [he]
    · cases h
  · cases h
theorem dT_inj {x y : Tm} (h : dT x = dT y) : x = y := by
  obtain ⟨a, i, t⟩ := x
  obtain ⟨a', i', t'⟩ := y
  simp [dT] at h
  simp [h]
theorem ky_inj {x y : Int} (h : ky x = ky y) : x = y := by simpa [ky] using h
theorem ky_key (i : Int) : WideAt.IsKeyLit (ky i) := trivial
theorem same_ky {x : Lit} {i : Int} : x.sameKey (ky i) = true ↔ x = ky i := by
  constructor
  · intro h
    refine Classical.byContradiction fun hn => ?_
    rw [sameKey_ne hn] at h
    cases h
  · rintro rfl
    exact WideAt.sameKey_self (ky_key i)

/-- The map D holds just the timers of the list L. -/
structure Rep (D : DataW Unit) (L : List Tm) : Prop where
  tidy : Tidy D
  has : ∀ kl, Maps.has D kl = true ↔ ∃ x ∈ L, kl = ky x.i
  at_ : ∀ x ∈ L, ∀ z, D.atKey (ky x.i) z = dT x
  size : Maps.size D = L.length
  ids : L.Pairwise (fun x y => x.i ≠ y.i)

theorem Rep.empty : Rep (.map []) [] := ⟨tidy_empty, fun kl => by simp [Maps.has], fun x hx => (by cases hx), rfl, .nil⟩

theorem Rep.no {D : DataW Unit} {L : List Tm} (h : Rep D L) {id : Int} (hn : ∀ y ∈ L, y.i ≠ id) : Maps.has D (ky id) = false := by
  cases e : Maps.has D (ky id)
  · rfl
  · obtain ⟨x, hx, hk⟩ := (h.has _).1 e
    exact absurd (ky_inj hk).symm (hn x hx)

theorem Rep.yes {D : DataW Unit} {L : List Tm} (h : Rep D L) {id : Int} {x : Tm} (hx : x ∈ L) (hi : x.i = id) : Maps.has D (ky id) = true := (h.has _).2 ⟨x, hx, by rw [hi]⟩

theorem Rep.put {D : DataW Unit} {L : List Tm} (h : Rep D L) (x : Tm) (hn : ∀ y ∈ L, y.i ≠ x.i) : Rep (D.put (ky x.i) (dT x)) (L ++ [x]) := by
  have hno := h.no hn
  refine ⟨h.tidy.put (ky_key _) _, fun kl => ?_, fun y hy z => ?_, ?_, ?_⟩
  · by_cases e : kl = ky x.i
    · subst e
      rw [has_put_same h.tidy.isMap (ky_key _)]
      simp
    · rw [has_put_other e, h.has]
      simp [e]
  · rcases List.mem_append.1 hy with hy | hy
    · rw [atKey_put_other (fun e => hn y hy (ky_inj e))]
      exact h.at_ y hy z
    · obtain rfl := List.mem_singleton.1 hy
      exact atKey_put_same h.tidy.isMap (ky_key _) _ _
  · rw [size_put h.tidy, hno, h.size]
    simp
  · rw [List.pairwise_append]
    exact ⟨h.ids, by simp, fun y hy z hz => by obtain rfl := List.mem_singleton.1 hz; exact hn y hy⟩

theorem len_drop (id : Int) : ∀ {L : List Tm}, L.Pairwise (fun x y => x.i ≠ y.i) → (L.filter fun y => !decide (y.i = id)).length + (if L.any fun y => decide (y.i = id) then 1 else 0) = L.length
  | [], _ => rfl
  | x :: r, h => by
    rw [List.pairwise_cons] at h
    have ih := len_drop id h.2
    by_cases e : x.i = id
    · have hr : (r.any fun y => decide (y.i = id)) = false := by
        rw [List.any_eq_false]
        intro y hy
        have := h.1 y hy
        simp
        omega
      rw [hr] at ih
      simp [e] at ih ⊢
      exact ih
    · simp [e] at ih ⊢
      omega

theorem Rep.any {D : DataW Unit} {L : List Tm} (h : Rep D L) (id : Int) : Maps.has D (ky id) = L.any fun y => decide (y.i = id) := by
  rw [Bool.eq_iff_iff, h.has, List.any_eq_true]
  constructor
  · rintro ⟨x, hx, e⟩
    exact ⟨x, hx, by simpa using (ky_inj e).symm⟩
  · rintro ⟨x, hx, e⟩
    exact ⟨x, hx, by simp at e; rw [e]⟩

theorem Rep.del {D : DataW Unit} {L : List Tm} (h : Rep D L) (id : Int) : Rep (D.del (ky id)) (L.filter fun y => !decide (y.i = id)) := by
  refine ⟨h.tidy.del _, fun kl => ?_, fun y hy z => ?_, ?_, h.ids.filter _⟩
  · by_cases e : kl = ky id
    · subst e
      rw [has_del_same]
      simp
      intro x _ hne e
      exact hne (ky_inj e).symm
    · rw [has_del_other e, h.has]
      simp
      constructor
      · rintro ⟨x, hx, rfl⟩
        exact ⟨x, ⟨hx, fun e1 => e (by rw [e1])⟩, rfl⟩
      · rintro ⟨x, ⟨hx, _⟩, rfl⟩
        exact ⟨x, hx, rfl⟩
  · obtain ⟨hy, hne⟩ := List.mem_filter.1 hy
    rw [atKey_del_other (fun e => by simp at hne; exact hne (ky_inj e))]
    exact h.at_ y hy z
  · have e1 := size_del (k := ky id) h.tidy
    have e2 := len_drop id h.ids
    rw [h.size, h.any id] at e1
    omega

/-- What a loop over the map has met: S; what it has yet to meet: 'left'. -/
structure Coll (L : List Tm) (left : Lit → Bool) (S : List Tm) : Prop where
  sub : ∀ x ∈ S, x ∈ L
  ids : S.Pairwise (fun x y => x.i ≠ y.i)
  out : ∀ x ∈ S, left (ky x.i) = false
  cov : ∀ x ∈ L, x ∈ S ∨ left (ky x.i) = true
  lft : ∀ kl, left kl = true → ∃ x ∈ L, kl = ky x.i

theorem Coll.start {D : DataW Unit} {L : List Tm} (h : Rep D L) : Coll L (Maps.has D) [] :=
  ⟨fun _ hx => (by cases hx), .nil, fun _ hx => (by cases hx), fun x hx => Or.inr ((h.has _).2 ⟨x, hx, rfl⟩), fun kl hk => (h.has kl).1 hk⟩

theorem Coll.step {D : DataW Unit} {L S : List Tm} {left : Lit → Bool} {kl : Lit} {x : Tm} (h : Coll L left S) (hr : Rep D L) (hl : left kl = true) (hat : ∀ z, D.atKey kl z = dT x) :
    Coll L (fun z => left z && !z.sameKey kl) (S ++ [x]) := by
  obtain ⟨y, hy, rfl⟩ := h.lft kl hl
  obtain rfl : y = x := dT_inj ((hr.at_ y hy (dT y)).symm.trans (hat _))
  refine ⟨fun z hz => ?_, ?_, fun z hz => ?_, fun z hz => ?_, fun k hk => ?_⟩
  · rcases List.mem_append.1 hz with hz | hz
    · exact h.sub z hz
    · obtain rfl := List.mem_singleton.1 hz; exact hy
  · rw [List.pairwise_append]
    refine ⟨h.ids, by simp, fun z hz u hu => ?_⟩
    obtain rfl := List.mem_singleton.1 hu
    intro e
    have := h.out z hz
    rw [e, hl] at this
    cases this
  · rcases List.mem_append.1 hz with hz | hz
    · simp [h.out z hz]
    · obtain rfl := List.mem_singleton.1 hz
      simp [WideAt.sameKey_self (ky_key z.i)]
  · rcases h.cov z hz with hz' | hz'
    · exact Or.inl (List.mem_append_left _ hz')
    · by_cases e : z.i = y.i
      · left
        have : z = y := by
          refine Classical.byContradiction fun hne => ?_
          have := dT_inj ((hr.at_ z hz (dT z)).symm.trans (by rw [e]; exact hat _))
          exact hne this
        rw [this]
        simp
      · right
        simp [hz', sameKey_ne (fun e1 => e (ky_inj e1))]
  · simp only [Bool.and_eq_true] at hk
    exact h.lft k hk.1

theorem nodup_ids {L : List Tm} (h : L.Pairwise (fun x y => x.i ≠ y.i)) : L.Nodup := h.imp fun hne e => hne (by rw [e])

theorem Coll.perm {L S : List Tm} {left : Lit → Bool} (h : Coll L left S) (ids : L.Pairwise (fun x y => x.i ≠ y.i)) (hl : ∀ kl, left kl = false) : S.Perm L := by
  rw [List.perm_ext_iff_of_nodup (nodup_ids h.ids) (nodup_ids ids)]
  intro x
  refine ⟨h.sub x, fun hx => ?_⟩
  rcases h.cov x hx with h1 | h1
  · exact h1
  · rw [hl] at h1; cases h1

/-- Ahead of another one: by the time, then by the turn. -/
def ltT (x y : Tm) : Bool := decide (x.a < y.a ∨ (x.a = y.a ∧ x.t < y.t))
theorem swoT : Sort.SWO ltT where
  irrefl x := by simp [ltT]
  trans x y z h1 h2 := by simp [ltT] at *; omega
  ntrans x y z h1 h2 := by simp [ltT] at *; omega

def srt (l : List Tm) : List Tm := l.mergeSort fun x y => !ltT y x
theorem srt_perm (l : List Tm) : (srt l).Perm l := List.mergeSort_perm _ _
theorem srt_sorted (l : List Tm) : (srt l).Pairwise (fun x y => ltT y x = false) := by
  have := List.pairwise_mergeSort (le := fun x y => !ltT y x) (fun a b c h1 h2 => by simp [ltT] at *; omega) (fun a b => by simp [ltT]; omega) l
  exact this.imp fun h => by simpa using h
theorem srt_unique {l l' : List Tm} (hp : l'.Perm l) (hs : l'.Pairwise (fun x y => ltT y x = false)) (ht : l.Pairwise (fun x y => x.t ≠ y.t)) : l' = srt l := by
  have inj : ∀ x ∈ l, ∀ y ∈ l, x.t = y.t → x = y := by
    intro x hx y hy e
    refine Classical.byContradiction fun hne => ?_
    obtain ⟨i, hi, rfl⟩ := List.getElem_of_mem hx
    obtain ⟨j, hj, rfl⟩ := List.getElem_of_mem hy
    rw [List.pairwise_iff_getElem] at ht
    rcases Nat.lt_trichotomy i j with h | h | h
    · exact ht i j hi hj h e
    · subst h; exact hne rfl
    · exact ht j i hj hi h e.symm
  refine List.Perm.eq_of_pairwise (le := fun x y => ltT y x = false) ?_ hs (srt_sorted l) (hp.trans (srt_perm l).symm)
  intro a b ha hb h1 h2
  refine inj a (hp.mem_iff.1 ha) b ((srt_perm l).mem_iff.1 hb) ?_
  simp [ltT] at h1 h2
  omega

/-- A wheel: its time, the turns that it has given, its timers in their order. -/
structure Wh where
  now : Int
  turns : Int
  L : List Tm

/-- What holds of a wheel behind at most k calls. -/
structure Ok (k : Nat) (S : Wh) : Prop where
  ids : S.L.Pairwise (fun x y => x.i ≠ y.i)
  tns : S.L.Pairwise (fun x y => x.t < y.t)
  tlt : ∀ x ∈ S.L, x.t < S.turns
  ahd : ∀ x ∈ S.L, S.now < x.a ∧ x.a ≤ S.now + 16777216
  len : S.L.length ≤ 200
  now0 : 0 ≤ S.now
  nowk : S.now ≤ k * 16777216
  trn0 : 0 ≤ S.turns
  trnk : S.turns ≤ k

def hasId (L : List Tm) (id : Int) : Bool := L.any fun x => decide (x.i = id)
def dropId (L : List Tm) (id : Int) : List Tm := L.filter fun x => !decide (x.i = id)
def addE (S : Wh) (at_ id : Int) : Int := if at_ ≤ S.now then 11 else if 16777216 < at_ - S.now then 4 else if hasId S.L id = true then 6 else if 200 ≤ S.L.length then 7 else 0
def addS (S : Wh) (at_ id : Int) : Wh := if addE S at_ id = 0 then ⟨S.now, S.turns + 1, S.L ++ [⟨at_, id, S.turns⟩]⟩ else S
def canE (S : Wh) (id : Int) : Int := if hasId S.L id = true then 0 else 5
def canS (S : Wh) (id : Int) : Wh := ⟨S.now, S.turns, dropId S.L id⟩
def dueB (m : Int) (x : Tm) : Bool := decide (x.a ≤ m)
def dueL (S : Wh) (n : Int) : List Tm := srt (S.L.filter (dueB (S.now + n)))
def advS (S : Wh) (n : Int) : Wh := ⟨S.now + n, S.turns, S.L.filter fun x => !dueB (S.now + n) x⟩

theorem hasId_false {L : List Tm} {id : Int} (h : hasId L id = false) : ∀ y ∈ L, y.i ≠ id := by
  intro y hy e
  unfold hasId at h
  rw [List.any_eq_false] at h
  exact h y hy (by simpa using e)
theorem dropId_none {L : List Tm} {id : Int} (h : hasId L id = false) : dropId L id = L := by
  unfold dropId
  rw [List.filter_eq_self]
  intro y hy
  have := hasId_false h y hy
  simpa using this

theorem Ok.new (k : Nat) : Ok k ⟨0, 0, []⟩ := ⟨.nil, .nil, fun _ h => (by cases h), fun _ h => (by cases h), by simp, by simp, by simp; omega, by simp, by simp⟩
theorem Ok.mono {k k' : Nat} {S : Wh} (h : Ok k S) (hk : k ≤ k') : Ok k' S := ⟨h.ids, h.tns, h.tlt, h.ahd, h.len, h.now0, by have := h.nowk; omega, h.trn0, by have := h.trnk; omega⟩
theorem Ok.add {k : Nat} {S : Wh} (h : Ok k S) (at_ id : Int) : Ok (k + 1) (addS S at_ id) := by
  unfold addS
  split
  · rename_i he
    unfold addE at he
    split at he
    · cases he
    · split at he
      · cases he
      · split at he
        · cases he
        · split at he
          · cases he
          · rename_i h1 h2 h3 h4
            have hn := hasId_false (by simpa using h3)
            have := h.nowk
            have := h.trnk
            have := h.trn0
            refine ⟨?_, ?_, ?_, ?_, ?_, h.now0, by simp only []; omega, by simp only []; omega, by simp only []; omega⟩
            · simp only []
              rw [List.pairwise_append]
              exact ⟨h.ids, by simp, fun y hy z hz => by obtain rfl := List.mem_singleton.1 hz; exact hn y hy⟩
            · simp only []
              rw [List.pairwise_append]
              exact ⟨h.tns, by simp, fun y hy z hz => by obtain rfl := List.mem_singleton.1 hz; exact h.tlt y hy⟩
            · simp only []
              intro x hx
              rcases List.mem_append.1 hx with hx | hx
              · have := h.tlt x hx; omega
              · obtain rfl := List.mem_singleton.1 hx; simp only []; omega
            · simp only []
              intro x hx
              rcases List.mem_append.1 hx with hx | hx
              · exact h.ahd x hx
              · obtain rfl := List.mem_singleton.1 hx; simp only []; omega
            · simp; omega
  · exact h.mono (by omega)
theorem Ok.can {k : Nat} {S : Wh} (h : Ok k S) (id : Int) : Ok k (canS S id) :=
  ⟨h.ids.filter _, h.tns.filter _, fun x hx => h.tlt x (List.mem_filter.1 hx).1, fun x hx => h.ahd x (List.mem_filter.1 hx).1, Nat.le_trans (List.length_filter_le _ _) h.len, h.now0, h.nowk, h.trn0, h.trnk⟩
theorem Ok.adv {k : Nat} {S : Wh} (h : Ok k S) {n : Int} (h0 : 0 ≤ n) (h1 : n ≤ 16777216) : Ok (k + 1) (advS S n) := by
  have := h.nowk
  have := h.now0
  have := h.trnk
  refine ⟨h.ids.filter _, h.tns.filter _, fun x hx => h.tlt x (List.mem_filter.1 hx).1, fun x hx => ?_, Nat.le_trans (List.length_filter_le _ _) h.len, by simp only [advS]; omega, by simp only [advS]; omega, h.trn0, by simp only [advS]; omega⟩
  obtain ⟨hx, hd⟩ := List.mem_filter.1 hx
  simp [dueB] at hd
  have := h.ahd x hx
  simp only [advS]
  omega
theorem Ok.tne {k : Nat} {S : Wh} (h : Ok k S) : S.L.Pairwise (fun x y => x.t ≠ y.t) := h.tns.imp fun h => by omega

/-- The least time of a list's timers; 0, if there is none. -/
def leastA : List Tm → Int
  | [] => 0
  | x :: r => r.foldl (fun m y => if y.a < m then y.a else m) x.a

theorem fold_least : ∀ (r : List Tm) (m : Int), (r.foldl (fun m y => if y.a < m then y.a else m) m ≤ m ∧ ∀ y ∈ r, r.foldl (fun m y => if y.a < m then y.a else m) m ≤ y.a) ∧ (r.foldl (fun m y => if y.a < m then y.a else m) m = m ∨ ∃ y ∈ r, r.foldl (fun m y => if y.a < m then y.a else m) m = y.a)
  | [], m => by simp
  | x :: r, m => by
    simp only [List.foldl_cons]
    obtain ⟨⟨h1, h2⟩, h3⟩ := fold_least r (if x.a < m then x.a else m)
    generalize r.foldl (fun m y => if y.a < m then y.a else m) (if x.a < m then x.a else m) = q at *
    refine ⟨⟨by split at h1 <;> omega, fun y hy => ?_⟩, ?_⟩
    · rcases List.mem_cons.1 hy with rfl | hy
      · split at h1 <;> omega
      · exact h2 y hy
    · rcases h3 with h3 | ⟨y, hy, h3⟩
      · split at h3
        · exact Or.inr ⟨x, by simp, h3⟩
        · exact Or.inl h3
      · exact Or.inr ⟨y, by simp [hy], h3⟩

theorem least_le {L : List Tm} {x : Tm} (hx : x ∈ L) : leastA L ≤ x.a := by
  cases L with
  | nil => cases hx
  | cons y r =>
    obtain ⟨⟨h1, h2⟩, _⟩ := fold_least r y.a
    rcases List.mem_cons.1 hx with rfl | hx
    · exact h1
    · exact h2 x hx
theorem least_mem {L : List Tm} (h : L ≠ []) : ∃ x ∈ L, leastA L = x.a := by
  cases L with
  | nil => exact absurd rfl h
  | cons y r =>
    obtain ⟨_, h3⟩ := fold_least r y.a
    rcases h3 with h3 | ⟨z, hz, h3⟩
    · exact ⟨y, by simp, h3⟩
    · exact ⟨z, by simp [hz], h3⟩
theorem least_unique {L : List Tm} {m : Int} (h1 : ∀ x ∈ L, m ≤ x.a) (h2 : ∃ x ∈ L, m = x.a) : m = leastA L := by
  obtain ⟨x, hx, e⟩ := h2
  have a1 := least_le hx
  obtain ⟨y, hy, e2⟩ := least_mem (List.ne_nil_of_mem hx)
  have := h1 y hy
  omega

theorem Ok.least {k : Nat} {S : Wh} (h : Ok k S) (hne : S.L ≠ []) : S.now < leastA S.L := by
  obtain ⟨x, hx, e⟩ := least_mem hne
  rw [e]
  exact (h.ahd x hx).1
theorem due_low {k : Nat} {S : Wh} {n : Int} (h : Ok k S) : ∀ x ∈ dueL S n, S.now < x.a ∧ x.a ≤ S.now + n := by
  intro x hx
  obtain ⟨h1, h2⟩ := List.mem_filter.1 ((srt_perm _).mem_iff.1 hx)
  exact ⟨(h.ahd x h1).1, by simpa [dueB] using h2⟩
theorem due_len {k : Nat} {S : Wh} (h : Ok k S) (n : Int) : (dueL S n).length ≤ 200 := by
  unfold dueL
  rw [(srt_perm _).length_eq]
  exact Nat.le_trans (List.length_filter_le _ _) h.len
theorem due_mono {S : Wh} {n : Int} {i j : Nat} (hij : i < j) (hj : j < (dueL S n).length) : (dueL S n)[i]!.a ≤ (dueL S n)[j]!.a := by
  have h := srt_sorted (S.L.filter (dueB (S.now + n)))
  rw [List.pairwise_iff_getElem] at h
  have := h i j (Nat.lt_trans hij hj) hj hij
  rw [getElem!_pos (dueL S n) i (Nat.lt_trans hij hj), getElem!_pos (dueL S n) j hj]
  simp [ltT] at this
  simp only [dueL]
  omega

/-- The cells of a row of fires. -/
def flatF (l : List Tm) : List Value := l.flatMap fun x => [.int .i64 x.a, .int .i64 x.i]
theorem flatF_len (l : List Tm) : (flatF l).length = l.length * 2 := by
  induction l with
  | nil => rfl
  | cons x r ih => simp [flatF] at ih ⊢; omega
def flatT (l : List Tm) : List Value := l.flatMap encT
theorem flatT_len (l : List Tm) : (flatT l).length = l.length * 3 := by
  induction l with
  | nil => rfl
  | cons x r ih => simp [flatT, encT] at ih ⊢; omega
theorem flatF_get {l : List Tm} {j : Nat} (hj : j < l.length) : (flatF l)[j * 2]? = some (.int .i64 l[j]!.a) ∧ (flatF l)[j * 2 + 1]? = some (.int .i64 l[j]!.i) := by
  induction l generalizing j with
  | nil => cases hj
  | cons x r ih =>
    cases j with
    | zero => exact ⟨rfl, rfl⟩
    | succ j =>
      have := ih (j := j) (by simpa using hj)
      have e : flatF (x :: r) = .int .i64 x.a :: .int .i64 x.i :: flatF r := rfl
      rw [e, show (j + 1) * 2 = j * 2 + 1 + 1 by omega]
      simpa using this
theorem flatT_get {l : List Tm} {j : Nat} (hj : j < l.length) : (flatT l)[j * 3]? = some (.int .i64 l[j]!.a) ∧ (flatT l)[j * 3 + 1]? = some (.int .i64 l[j]!.i) ∧ (flatT l)[j * 3 + 2]? = some (.int .i64 l[j]!.t) := by
  induction l generalizing j with
  | nil => cases hj
  | cons x r ih =>
    cases j with
    | zero => exact ⟨rfl, rfl, rfl⟩
    | succ j =>
      have := ih (j := j) (by simpa using hj)
      have e : flatT (x :: r) = .int .i64 x.a :: .int .i64 x.i :: .int .i64 x.t :: flatT r := rfl
      rw [e, show (j + 1) * 3 = j * 3 + 1 + 1 + 1 by omega]
      simpa using this
end Go.Proofs.Ytejfogajlddaeaa.Whm
