/- A region that leaves its order open and whose calls write: an operation that yields the same in every world of a class may be carried out first, where the region never leaves that class. No program is named here. -/
import Derived.Orders
import Derived.WalkKit
namespace Go.Proofs.YthfpdbogbmccjaaDoor.Tkc
open Go

section
variable {P : Program} {ops : Array Oper} {Q : Exit → Act → World → Prop} {md : Region.Mode} {C : World → Prop} {s : Nat}

/-- Every order, and the class is not left before the operation s is carried out. -/
def anyC (P : Program) (md : Region.Mode) (ops : Array Oper) (C : World → Prop) (s : Nat) (Q : Exit → Act → World → Prop) : Nat → Array Bool → Act → World → Prop
  | 0, listed, a, w => (listed.getD s false = false → C w) ∧ Region.ready md ops listed = [] ∧ Q .normal a w
  | f + 1, listed, a, w => (listed.getD s false = false → C w) ∧ (Region.ready md ops listed = [] → Q .normal a w) ∧ ∀ i ∈ Region.ready md ops listed, wpOp P ops Q i (anyC P md ops C s Q f (listed.setIfInBounds i true)) a w

theorem anyC_any : ∀ (f : Nat) (listed : Array Bool) (a : Act) (w : World), anyC P md ops C s Q f listed a w → wpAny P md ops Q f listed a w
  | 0, _, _, _, h => h.2
  | f + 1, _, _, _, h => ⟨h.2.1, fun i hi => wpOp_mono (fun a w hh => anyC_any f _ a w hh) (h.2.2 i hi)⟩

theorem anyC_in : ∀ (f : Nat) (listed : Array Bool) (a : Act) (w : World), anyC P md ops C s Q f listed a w → listed.getD s false = false → C w
  | 0, _, _, _, h => h.1
  | _ + 1, _, _, _, h => h.1

theorem region_anyC {id : Nat} {a : Act} {w : World} (hm : P.follows .mixedOrders = true) (h : anyC P .any ops C s Q ops.size (Array.replicate ops.size false) a w.drew) : (Code.region id ops true).wp P Q a w :=
  wp_region_any hm (anyC_any _ _ _ _ h)

/-- What an operation puts, it puts into its own slot. -/
def Puts (a : Act) (d : Option Tmp) (a' : Act) : Prop := ∃ ds u, a' = ({ a with defers := ds } : Act).put d u

theorem apart_op {j : Nat} {oj : Oper} {d : Option Tmp} {v : Value} (hj : ops[j]? = some oj) (h1 : ∀ x, d = some x → x ∉ oj.looksAt ops) (h2 : ∀ x, d = some x → oj.dst ≠ some x) (hs : ∀ cs b, oj.op ≠ .select cs b)
    (hQ : ∀ c a w, Q (.panic c) (a.put d v) w → Q (.panic c) a w) {K : Act → World → Prop} {a : Act} {w : World} (h : wpOp P ops Q j K (a.put d v) w) :
    wpOp P ops Q j (fun a' w' => Puts a oj.dst a' ∧ K (a'.put d v) w') a w := by
  have sw : ∀ (b : Act) (u : Value), (b.put d v).put oj.dst u = (b.put oj.dst u).put d v := fun b u => Act.put_comm b v u h2
  simp only [wpOp, hj] at h ⊢
  rw [wanted_put oj a d v h1] at h
  cases hw : Region.wanted oj (yielded ops a.tmps) with
  | false =>
    simp only [hw, Bool.false_eq_true, if_false] at h ⊢
    exact ⟨⟨a.defers, undef, rfl⟩, by rw [← sw]; exact h⟩
  | true =>
    simp only [hw, if_true] at h ⊢
    have he := execOp_put oj hs a d v h1
    refine h.imp (fun h => ?_) (fun h => ⟨by have h0 := h.1; unfold Oper.asks at h0 ⊢; rw [he] at h0; exact h0, h.2⟩)
    unfold Oper.wp at h ⊢
    rw [he] at h
    cases hr : (execOp a.eval oj).run P w with
    | halt x w' =>
      rw [hr] at h
      cases x <;> simp only [Oper.upon] at h ⊢
      exact hQ _ _ _ h
    | ok n w' =>
      rw [hr] at h
      cases n <;> simp only [Oper.upon] at h ⊢
      case value u => exact ⟨⟨a.defers, u, rfl⟩, by rw [← sw]; exact h⟩
      case skip => exact ⟨⟨a.defers, undef, rfl⟩, by rw [← sw]; exact h⟩
      case defer x =>
        refine ⟨⟨x :: a.defers, undef, rfl⟩, ?_⟩
        rw [← sw, ← Act.put_defers]
        exact h
      case enter f args =>
        refine Calls.mono h fun e w'' hh => ?_
        cases e with
        | returned u => exact ⟨⟨a.defers, u, rfl⟩, by rw [← sw]; exact hh⟩
        | panicked c => exact hQ _ _ _ hh
        | outgrown => exact hh
      case row r args => exact Rows.mono h fun u w'' hh => ⟨⟨a.defers, u, rfl⟩, by rw [← sw]; exact hh⟩

/-- It yields v in every world of the class, and turns nothing. -/
def YieldC (P : Program) (ops : Array Oper) (C : World → Prop) (o : Oper) (v : Value) (a : Act) : Prop := Region.wanted o (yielded ops a.tmps) = true ∧ ∀ w, C w → (execOp a.eval o).run P w = .ok (.value v) w

theorem YieldC.puts {o : Oper} {v : Value} {a a' : Act} {d : Option Tmp} (h : YieldC P ops C o v a) (hs : ∀ cs b, o.op ≠ .select cs b) (h3 : ∀ x, d = some x → x ∉ o.looksAt ops) (hp : Puts a d a') : YieldC P ops C o v a' := by
  obtain ⟨ds, u, rfl⟩ := hp
  refine ⟨?_, fun w hw => ?_⟩
  · rw [wanted_put o ({ a with defers := ds } : Act) d u h3]; exact h.1
  · rw [execOp_put o hs ({ a with defers := ds } : Act) d u h3]; exact h.2 w hw

theorem firstC {i : Nat} {oi : Oper} {v : Value} (his : i ≠ s) (hi : ops[i]? = some oi) (hsel : ∀ (j : Nat) (o : Oper) cs b, ops[j]? = some o → o.op ≠ .select cs b) (hQ : ∀ c a w, Q (.panic c) (a.put oi.dst v) w → Q (.panic c) a w) :
    ∀ (f : Nat) (listed : Array Bool) (a : Act) (w : World), C w → listed.getD s false = false → (∀ os, ops[s]? = some os → ∃ e ∈ os.after, Region.binds md e = true ∧ e.on = i) →
      (∀ j oj, ops[j]? = some oj → j ≠ i → listed.getD j true = false → (∀ e ∈ oj.after, Region.binds md e = true → e.on ≠ i) → oi.apart ops oj = true) →
      i ∈ Region.ready md ops listed → YieldC P ops C oi v a → anyC P md ops C s Q f (listed.setIfInBounds i true) (a.put oi.dst v) w → anyC P md ops C s Q (f + 1) listed a w := by
  have own : ∀ {K : Act → World → Prop} {a : Act} {w : World}, YieldC P ops C oi v a → C w → K (a.put oi.dst v) w → wpOp P ops Q i K a w := fun {K a w} hy hc hk => by
    simp only [wpOp, hi, hy.1, if_true, Oper.wp, hy.2 w hc, Oper.upon]
    exact Or.inl hk
  intro f
  induction f with
  | zero =>
    intro listed a w hc _ _ _ hr hy H
    refine ⟨fun _ => hc, fun h => (by rw [h] at hr; cases hr), fun j hj => ?_⟩
    by_cases e : j = i
    · subst e; exact own hy hc H
    · have := ready_mono hj e
      rw [H.2.1] at this
      cases this
  | succ f ih =>
    intro listed a w hc hs0 hsw hfree hr hy H
    refine ⟨fun _ => hc, fun h => (by rw [h] at hr; cases hr), fun j hj => ?_⟩
    by_cases e : j = i
    · subst e; exact own hy hc H
    obtain ⟨hun, oj, hoj, hall⟩ := mem_ready.1 hj
    have hnot : ∀ x ∈ oj.after, Region.binds md x = true → x.on ≠ i := fun x hx hb heq => by
      have l1 := hall x hx hb
      have l0 := (mem_ready.1 hr).1
      rw [heq] at l1
      by_cases hlt : i < listed.size
      · simp [hlt] at l0 l1
        rw [l0] at l1
        cases l1
      · simp [Array.getElem?_eq_none (Nat.le_of_not_lt hlt)] at l1
    have hjs : j ≠ s := fun e1 => by
      subst e1
      obtain ⟨x, hx, hb, hon⟩ := hsw oj hoj
      exact hnot x hx hb hon
    have hs1 : (listed.setIfInBounds j true).getD s false = false := by rw [getD_set_ne false hjs]; exact hs0
    obtain ⟨a1, a2, a3⟩ := Oper.apart_spec (hfree j oj hoj e hun hnot)
    have h1 := apart_op hoj a1 a2 (fun cs b => hsel j oj cs b hoj) hQ (H.2.2 j (ready_mono hj e))
    refine wpOp_mono (fun a' w' hh => ?_) h1
    have H' : anyC P md ops C s Q f ((listed.setIfInBounds j true).setIfInBounds i true) (a'.put oi.dst v) w' := by
      rw [Array.setIfInBounds_comm _ _ e]
      exact hh.2
    have hr' := ready_mono hr (Ne.symm e)
    have hy' := hy.puts (fun cs b => hsel i oi cs b hi) a3 hh.1
    have hfree' : ∀ k ok, ops[k]? = some ok → k ≠ i → (listed.setIfInBounds j true).getD k true = false → (∀ x ∈ ok.after, Region.binds md x = true → x.on ≠ i) → oi.apart ops ok = true := fun k ok hk hki hu hno => by
      refine hfree k ok hk hki ?_ hno
      by_cases ek : j = k
      · subst ek; exact hun
      · rw [getD_set_ne true ek] at hu; exact hu
    exact ih (listed.setIfInBounds j true) a' w' (anyC_in _ _ _ _ H' (by rw [getD_set_ne false his]; exact hs1)) hs1 hsw hfree' hr' hy' H'

/-- Carry it out first. -/
theorem takeC {i : Nat} {oi : Oper} {v : Value} {f : Nat} {listed : Array Bool} {a : Act} {w : World} (hi : ops[i]? = some oi) (hs : Region.noSelect ops = true) (hf : Region.free md ops listed i = true) (hr : (Region.ready md ops listed).contains i = true)
    (hQ : ∀ c a w, Q (.panic c) (a.put oi.dst v) w → Q (.panic c) a w) (his : i ≠ s) (hs0 : listed.getD s false = false) (hsw : (match ops[s]? with | some os => os.after.any (fun e => Region.binds md e && e.on == i) | none => true) = true) (hc : C w) (hy : YieldC P ops C oi v a)
    (h : anyC P md ops C s Q f (listed.setIfInBounds i true) (a.put oi.dst v) w) : anyC P md ops C s Q (f + 1) listed a w :=
  firstC his hi (Region.noSelect_spec hs) hQ f listed a w hc hs0 (fun os hos => by
    rw [hos] at hsw
    obtain ⟨e, he, hb⟩ := Array.any_eq_true'.1 hsw
    simp only [Bool.and_eq_true, beq_iff_eq] at hb
    exact ⟨e, he, hb.1, hb.2⟩) (Region.free_spec hi hf) (by simpa using hr) hy h

/-- The only one that may be carried out now. -/
theorem onlyC {i : Nat} {o : Oper} {f : Nat} {listed : Array Bool} {a : Act} {w : World} (hi : ops[i]? = some o) (hr : Region.ready md ops listed = [i]) (hc : listed.getD s false = false → C w) (hw : Region.wanted o (yielded ops a.tmps) = true)
    (h : ∀ K : Act → World → Prop, (∀ a w, anyC P md ops C s Q f (listed.setIfInBounds i true) a w → K a w) → o.wp P a w K Q) : anyC P md ops C s Q (f + 1) listed a w := by
  refine ⟨hc, fun h0 => (by rw [hr] at h0; cases h0), fun j hj => ?_⟩
  rw [hr] at hj
  obtain rfl := List.mem_singleton.1 hj
  simp only [wpOp, hi, hw, if_true]
  exact Or.inl (h _ fun _ _ hh => hh)

theorem doneC {listed : Array Bool} {a : Act} {w : World} (hr : Region.ready md ops listed = []) (hc : listed.getD s false = false → C w) (h : Q .normal a w) : anyC P md ops C s Q 0 listed a w := ⟨hc, hr, h⟩
end
end Go.Proofs.YthfpdbogbmccjaaDoor.Tkc
