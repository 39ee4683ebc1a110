/- The plain mathematics of the reference's items: the pieces' way and the cuts' way are one. No program is named here. -/
import Derived.Test.YthebcdadoinflaaDoorPcm
namespace Go.Proofs.YthebcdadoinflaaDoor.Crn
open Cal Txt

theorem num_has {a b : List UInt8} {c : UInt8} (hc : ¬ (48 ≤ (c.toNat : Int) ∧ (c.toNat : Int) ≤ 57)) : numO (a ++ c :: b) = none := by
  unfold numO
  split
  · rfl
  · have e : nrd (c :: b) = fun _ => none := by
      funext x
      unfold nrd
      rw [if_neg hc]
    rw [nrd_append, e]
    cases nrd a 0 <;> rfl
/-- From where to where, and whether it is a span: what stands ahead of a step, read by its pieces. -/
def headR (lo hi : Nat) (a : List UInt8) : Option (Int × Int × Bool) :=
  if a = [42] then some (lo, hi, true)
  else if 2 < (sp 45 a).length then none
  else (memO lo hi ((sp 45 a).getD 0 [])).bind fun f => if (sp 45 a).length = 2 then ((numO ((sp 45 a).getD 1 [])).bind fun t => if f ≤ t ∧ t ≤ hi then some (f, t, true) else none) else some (f, f, false)
def itemR (lo hi : Nat) (l : List UInt8) : Option Nat :=
  if 2 < (sp 47 l).length then none
  else (headR lo hi ((sp 47 l).getD 0 [])).bind fun p => if (sp 47 l).length = 2 then ((numO ((sp 47 l).getD 1 [])).bind fun s => if 1 ≤ s ∧ p.2.2 = true then some (spn p.1 p.2.1 s) else none) else some (spn p.1 p.2.1 1)
theorem head_span {lo hi : Nat} {a : List UInt8} (hm : memO lo hi a = none) : (headR lo hi a) = (spanO lo hi a).map fun p => (p.1, p.2, true) := by
  by_cases e : a = [42]
  · subst e
    rw [span_star]
    unfold headR
    rw [if_pos rfl]
    rfl
  · unfold headR
    rw [if_neg e]
    by_cases h : (45 : UInt8) ∈ a
    · obtain ⟨x, y, rfl, hx⟩ := List.eq_append_cons_of_mem h
      rw [span_two e (cut_hit hx), sp_app hx]
      by_cases hy : (45 : UInt8) ∈ y
      · obtain ⟨u, v, rfl, hu⟩ := List.eq_append_cons_of_mem hy
        have e1 : memO lo hi (u ++ 45 :: v) = none := by unfold memO; rw [num_has (by decide)]; rfl
        rw [sp_app hu, e1]
        obtain ⟨p, q, e2⟩ := sp_ne 45 v
        rw [e2, if_pos (by simp)]
        cases memO lo hi x <;> rfl
      · rw [sp_none hy, if_neg (by simp)]
        have h2 : ([x, y].length = 2) = True := by simp
        simp only [h2, if_true, List.getD_cons_zero, List.getD_cons_succ]
        cases hx1 : memO lo hi x with
        | none => rfl
        | some f =>
          simp only [Option.bind_some]
          unfold memO
          cases hn : numO y with
          | none => rfl
          | some t =>
            simp only [Option.bind_some]
            have hb := (mem_open hx1).2
            by_cases hc : f ≤ t ∧ t ≤ hi
            · rw [if_pos hc, if_pos ⟨by omega, hc.2⟩]
              simp only [Option.bind_some]
              rw [if_pos hc.1]
              rfl
            · rw [if_neg hc]
              by_cases hd : (lo : Int) ≤ t ∧ t ≤ hi
              · rw [if_pos hd]
                simp only [Option.bind_some]
                rw [if_neg (by omega)]
                rfl
              · rw [if_neg hd]
                rfl
    · rw [sp_none h, if_neg (by simp), span_two e (cut_miss h)]
      simp only [List.getD_cons_zero]
      rw [hm]
      rfl
theorem head_single {lo hi : Nat} {a : List UInt8} {n : Int} (hm : memO lo hi a = some n) : headR lo hi a = some (n, n, false) ∧ spanO lo hi a = none := by
  have hn := (mem_open hm).1
  have h45 : (45 : UInt8) ∉ a := by
    intro h
    obtain ⟨x, y, rfl, _⟩ := List.eq_append_cons_of_mem h
    rw [num_has (by decide)] at hn
    cases hn
  have e : a ≠ [42] := by
    intro e
    rw [e, show numO [42] = none by decide] at hn
    cases hn
  refine ⟨?_, ?_⟩
  · unfold headR
    rw [if_neg e, sp_none h45, if_neg (by simp)]
    simp only [List.getD_cons_zero]
    rw [hm]
    simp
  · rw [span_two e (cut_miss h45), hm]
    rfl
/-- The two ways are one. -/
theorem item_eq {lo hi : Nat} (l : List UInt8) : itemR lo hi l = itemO lo hi l := by
  unfold itemR
  by_cases h : (47 : UInt8) ∈ l
  · obtain ⟨a, b, rfl, ha⟩ := List.eq_append_cons_of_mem h
    rw [item_step (cut_hit ha), sp_app ha]
    by_cases hb : (47 : UInt8) ∈ b
    · obtain ⟨u, v, rfl, hu⟩ := List.eq_append_cons_of_mem hb
      obtain ⟨p, q, e2⟩ := sp_ne 47 v
      rw [sp_app hu, e2, if_pos (by simp), num_has (by decide)]
      cases spanO lo hi a <;> rfl
    · rw [sp_none hb, if_neg (by simp)]
      have h2 : ([a, b].length = 2) = True := by simp
      simp only [h2, if_true, List.getD_cons_zero, List.getD_cons_succ]
      cases hm : memO lo hi a with
      | some n =>
        obtain ⟨h3, h4⟩ := head_single hm
        rw [h3, h4]
        simp only [Option.bind_some, Option.bind_none]
        cases numO b with
        | none => rfl
        | some s => simp
      | none =>
        rw [head_span hm]
        cases spanO lo hi a with
        | none => rfl
        | some p =>
          simp only [Option.map_some, Option.bind_some]
          cases hn : numO b with
          | none => rfl
          | some s =>
            simp only [Option.bind_some]
            have hg := num_ge hn
            by_cases hs : s = 0
            · rw [if_pos hs, if_neg (by omega)]
            · rw [if_neg hs, if_pos ⟨by omega, by trivial⟩]
  · rw [sp_none h, if_neg (by simp)]
    have h2 : ([l].length = 2) = False := by simp
    simp only [h2, if_false, List.getD_cons_zero]
    cases hm : memO lo hi l with
    | some n =>
      rw [(head_single hm).1, item_one (cut_miss h) hm]
      have h0 := (mem_open hm).2
      simp only [Option.bind_some]
      rw [show n = ((n.toNat : Nat) : Int) by omega, one_spn]
      rfl
    | none =>
      rw [head_span hm, item_all (cut_miss h) hm]
      cases spanO lo hi l <;> rfl
/-- One number more, or not. -/
theorem spn_add {f n s : Int} (h0 : 0 ≤ f) (h1 : f ≤ n) (hm : (n.toNat - f.toNat) % s.toNat = 0) : spn f n s = spn f (n - 1) s ||| 2 ^ n.toNat := by
  apply Nat.eq_of_testBit_eq
  intro j
  rw [Nat.testBit_or, spn_bit h0, spn_bit h0, Nat.testBit_two_pow]
  by_cases e : n.toNat = j
  · subst e
    rw [decide_eq_true ⟨by omega, by omega, hm⟩]
    simp
  · rw [decide_eq_false e, Bool.or_false]
    congr 1
    apply propext
    constructor
    · rintro ⟨a, b, c⟩; exact ⟨a, by omega, c⟩
    · rintro ⟨a, b, c⟩; exact ⟨a, by omega, c⟩
theorem spn_skip {f n s : Int} (h0 : 0 ≤ f) (hm : ¬ (n.toNat - f.toNat) % s.toNat = 0) : spn f n s = spn f (n - 1) s := by
  apply Nat.eq_of_testBit_eq
  intro j
  rw [spn_bit h0, spn_bit h0]
  congr 1
  apply propext
  constructor
  · rintro ⟨a, b, c⟩
    refine ⟨a, ?_, c⟩
    rcases (show (j : Int) ≤ n - 1 ∨ j = n.toNat by omega) with l | l
    · exact l
    · rw [l] at c; exact absurd c hm
  · rintro ⟨a, b, c⟩; exact ⟨a, by omega, c⟩
theorem mod_cast' {f n s : Int} (h0 : 0 ≤ f) (h1 : f ≤ n) (hs : 1 ≤ s) : (n - f) % s = 0 ↔ (n.toNat - f.toNat) % s.toNat = 0 := by
  have e : n - f = ((n.toNat - f.toNat : Nat) : Int) := by omega
  have e2 : s = ((s.toNat : Nat) : Int) := by omega
  rw [e, e2]
  generalize n.toNat - f.toNat = x
  rw [show (((s.toNat : Nat) : Int)).toNat = s.toNat by omega]
  generalize s.toNat = y
  omega
end Go.Proofs.YthebcdadoinflaaDoor.Crn
