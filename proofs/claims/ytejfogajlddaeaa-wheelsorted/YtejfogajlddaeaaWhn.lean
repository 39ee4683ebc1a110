/- The wheel's calls that go through its map, walked: Next, and the timers that are due. -/
import Derived.Test.YtejfogajlddaeaaWhc
import Derived.Maps.AppendAt
import Derived.Deep.QuietTactic
import Derived.BigQuiet
namespace Go.Proofs.Ytejfogajlddaeaa
open Go.RowKit Go.Maps Go.Shelf Go.Lib Go.Sort Whm
set_option linter.unusedSectionVars false
variable [Inhabited Tm]

/-- A step of a loop over the map of timers. -/
theorem wpList_next_tm {P : Program} (w : World) {ops : Array Oper} {rest : List Oper} {o : Oper} {a : Act} {Q : Exit → Act → World → Prop} (hg : o.guard = none) (it : Operand) (hop : o.op = Op.next it false) (k : TypeId) (K : Keyed P k) (hk : P.underlying k = some (.int .i64))
    (b r n : Nat) (D : DataW Unit) (left : Lit → Bool) (cnt : Nat) (hit : a.eval it = .pointer (some ⟨r, 0, none⟩)) (h : w.ranges P k tmElem b r n D left cnt)
    (hDone : cnt = 0 → (∀ kl, left kl = false) → wpList P ops Q rest (a.put o.dst (.tuple #[.bool false])) w)
    (hMore : ∀ (x c0 c1 c2 : Int) (w' : World) (cnt' : Nat), left (ky x) = true → (∀ zd, D.atKey (ky x) zd = dT ⟨c0, c1, c2⟩) → w'.ranges P k tmElem b r n D (fun z => left z && !z.sameKey (ky x)) cnt' → cnt' < cnt →
      w.grownBy w' (some r) → (Instr.entry (.pointer (some ⟨r, 0, none⟩))).run P w' = .ok (.tuple #[.int .i64 x, .agg #[.int .i64 c0, .int .i64 c1, .int .i64 c2]]) w' → wpList P ops Q rest (a.put o.dst (.tuple #[.bool true, .int .i64 x, .agg #[.int .i64 c0, .int .i64 c1, .int .i64 c2]])) w') :
    wpList P ops Q (o :: rest) a w :=
  wpList_next_ranges w hg it hop k K tmElem (Value.int .i64) valT (fun key kl hkey => by obtain ⟨x, rfl, _⟩ := Maps.keyOf_int_inv hk hkey; exact ⟨x, rfl⟩) (fun v y hv => by obtain ⟨c, rfl, _⟩ := tmElem_inv hv; exact ⟨c, rfl⟩)
    b r n D left cnt hit h hDone (fun x c kl y w' cnt' hkey hlk hv hat hrg hlt hgr _ hen => by
      obtain ⟨x', ex, rfl, _⟩ := Maps.keyOf_int_inv hk hkey
      cases ex
      obtain ⟨c', ec, rfl⟩ := tmElem_inv hv
      have e : c' = c := by
        obtain ⟨a, i, t⟩ := c
        obtain ⟨a', i', t'⟩ := c'
        simp [valT] at ec
        simp [ec]
      subst e
      exact hMore x c'.a c'.i c'.t w' cnt' hlk hat hrg hlt hgr hen)

def someB : List Tm → Bool
  | [] => false
  | _ :: _ => true
theorem someB_perm {l l' : List Tm} (h : l.Perm l') : someB l = someB l' := by
  have := h.length_eq
  cases l <;> cases l' <;> simp_all [someB]

/-- What Next has found among the timers that it has met. -/
def NxR (S : List Tm) (l f : Value) : Prop := (S = [] ∧ l = .int .i64 0 ∧ f = .bool false) ∨ (∃ m : Int, l = .int .i64 m ∧ f = .bool true ∧ (∀ x ∈ S, m ≤ x.a) ∧ ∃ x ∈ S, m = x.a)

set_option maxRecDepth 100000 in
theorem next_any {w : World} {pb bm : Nat} {S : Wh} (h : Whl w pb bm S) :
    Calls Try.prog 13 #[.pointer (some ⟨pb, 0, none⟩)] w fun e w' => e = .returned (.tuple #[.int .i64 (leastA S.L), .bool (someB S.L)]) ∧ Below w.heap.size w w' := by
  obtain ⟨D, hown, hr⟩ := h.own
  have c2 := h.c2
  generalize S.L = L at *
  clear h
  go_enter Try.func13, Try.ntmps13
  go_wp2_with (first
    | (at_range; refine wpList_range_own _ rfl _ 51 rfl 3 55 lawK Try.underlying51 tmElem bm _ D rfl hown ?_; intro w0 hrg0 hg0 hs0)
    | go_in)
  go_frame
  go_loopw [4, 5] (fun l f wr => ∃ (left : Lit → Bool) (cnt : Nat) (M : List Tm), wr.ranges Try.prog 3 tmElem bm w.heap.size L.length D left cnt ∧ Below w.heap.size w wr ∧ Coll L left M ∧ NxR M l f)
    (fun _ _ wr => wr.rangeLeft bm w.heap.size)
  case atStart => exact ⟨_, _, [], hrg0, (Below.refl _ _).grown hg0 (Nat.le_refl _) (fun j hj => by cases hj), Coll.start hr, Or.inl ⟨rfl, rfl, rfl⟩⟩
  case round =>
    obtain ⟨left, cnt, M, hrg, hbl, hC, hN⟩ := hrel
    go_wp2_with (first
      | (at_next; refine wpList_next_tm _ rfl _ rfl 3 lawK Try.underlying3 bm w.heap.size L.length D _ _ rfl hrg ?_ ?_)
      | go_in)
    · intro _ hl0
      have hp := hC.perm hr.ids hl0
      rcases hN with ⟨rfl, rfl, rfl⟩ | ⟨m, rfl, rfl, h1, h2⟩
      · have e : L = [] := by simpa using hp
        subst e
        go_wp2
        go_ret2
        exact ⟨rfl, hbl⟩
      · have e : m = leastA L := least_unique (fun x hx => h1 x (hp.mem_iff.2 hx)) (by obtain ⟨x, hx, e⟩ := h2; exact ⟨x, hp.mem_iff.1 hx, e⟩)
        have e2 : someB L = true := by
          obtain ⟨x, hx, _⟩ := h2
          have := hp.mem_iff.1 hx
          cases L with
          | nil => cases this
          | cons y r => rfl
        have he : Hid (m = leastA L) := e
        have he2 : Hid (someB L = true) := e2
        clear h1 h2 e e2
        go_wp2
        go_ret2
        rw [← he.out, he2.out]
        exact ⟨rfl, hbl⟩
    · intro x d0 d1 d2 w1 cnt1 hlx hat hrg1 hlt hg1 hen
      have hbl1 : Below w.heap.size w w1 := hbl.grown hg1 hbl.size (fun j hj => by cases hj; exact Nat.le_refl _)
      have hC1 := hC.step hr hlx hat
      have hb2 : Below w.heap.size w (w1.alloc (.cells #[.int .i64 d0, .int .i64 d1, .int .i64 d2] 55)) := hbl1.alloc hbl1.size _
      have hrg2 := hrg1.alloc (.cells #[.int .i64 d0, .int .i64 d1, .int .i64 d2] 55)
      rcases hN with ⟨rfl, rfl, rfl⟩ | ⟨m, rfl, rfl, h1, h2⟩
      · go_wp2
        go_roundw
        case rel => exact ⟨_, cnt1, _, hrg2, hb2, hC1, Or.inr ⟨d0, rfl, rfl, by simp, by simp⟩⟩
        case measure => rw [hrg2.left_eq, hrg.left_eq]; exact hlt
      · have h1' : Hid (∀ x ∈ M, m ≤ x.a) := h1
        have h2' : Hid (∃ x ∈ M, m = x.a) := h2
        clear h1 h2
        by_cases hd : d0 < m
        · go_wp2
          go_roundw
          case rel =>
            refine ⟨_, cnt1, _, hrg2, hb2, hC1, Or.inr ⟨d0, rfl, rfl, ?_, ⟨⟨d0, d1, d2⟩, by simp, rfl⟩⟩⟩
            intro z hz
            rcases List.mem_append.1 hz with hz | hz
            · have := h1'.out z hz; omega
            · obtain rfl := List.mem_singleton.1 hz; exact Int.le_refl _
          case measure => rw [hrg2.left_eq, hrg.left_eq]; exact hlt
        · go_wp2
          go_roundw
          case rel =>
            refine ⟨_, cnt1, _, hrg2, hb2, hC1, Or.inr ⟨m, rfl, rfl, ?_, ?_⟩⟩
            · intro z hz
              rcases List.mem_append.1 hz with hz | hz
              · exact h1'.out z hz
              · obtain rfl := List.mem_singleton.1 hz; simp only []; omega
            · obtain ⟨z, hz, e⟩ := h2'.out
              exact ⟨z, by simp [hz], e⟩
          case measure => rw [hrg2.left_eq, hrg.left_eq]; exact hlt
end Go.Proofs.Ytejfogajlddaeaa
