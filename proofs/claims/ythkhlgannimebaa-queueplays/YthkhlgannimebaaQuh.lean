/- The library's heap over the pile, walked: up, down, Push, Fix, Remove. -/
import Derived.Test.YthkhlgannimebaaQuw
namespace Go.Proofs.Ythkhlgannimebaa
open Go.RowKit Go.Maps Go.Sort Qum
set_option linter.unusedSectionVars false

/- The heap looks its methods up by the pointer to the pile. -/
def hv (qb : Nat) : Value := .iface 65 (.pointer (some ⟨qb, 1, none⟩))

theorem wrap_chk (a : Addr) (s : String) (w : World) : (Builtin.ssaWrapNilChk_ #[65] 65 #[.pointer (some a), strVal "", strVal s]).run Try.prog w = .ok (.pointer (some a)) w := by rfl

set_option maxRecDepth 100000 in
theorem meth_len_ (fuel : Nat) (qb : Nat) (v : Value) (w : World) (h : w.cell? ⟨qb, 1, none⟩ = some v) : (method (fuel + 1) 65 (.pointer (some ⟨qb, 1, none⟩)) "Len").run Try.prog w = .ok (76, v) w := by
  have hf : Array.find? (fun x => x.name == "Len") Try.t65.methods = some { name := "Len", sig := 74, path := #[], func := some (76, false) } := by kernel_rfl
  simp [method, hf, follow, receiverAt, Place.get, wrap_chk, asAddr, loadVar, h]

set_option maxRecDepth 100000 in
theorem meth_less_ (fuel : Nat) (qb : Nat) (v : Value) (w : World) (h : w.cell? ⟨qb, 1, none⟩ = some v) : (method (fuel + 1) 65 (.pointer (some ⟨qb, 1, none⟩)) "Less").run Try.prog w = .ok (77, v) w := by
  have hf : Array.find? (fun x => x.name == "Less") Try.t65.methods = some { name := "Less", sig := 83, path := #[], func := some (77, false) } := by kernel_rfl
  simp [method, hf, follow, receiverAt, Place.get, wrap_chk, asAddr, loadVar, h]

set_option maxRecDepth 100000 in
theorem meth_swap_ (fuel : Nat) (qb : Nat) (v : Value) (w : World) (h : w.cell? ⟨qb, 1, none⟩ = some v) : (method (fuel + 1) 65 (.pointer (some ⟨qb, 1, none⟩)) "Swap").run Try.prog w = .ok (78, v) w := by
  have hf : Array.find? (fun x => x.name == "Swap") Try.t65.methods = some { name := "Swap", sig := 84, path := #[], func := some (78, false) } := by kernel_rfl
  simp [method, hf, follow, receiverAt, Place.get, wrap_chk, asAddr, loadVar, h]

set_option maxRecDepth 100000 in
theorem meth_push_ (fuel : Nat) (qb : Nat) (w : World) : (method (fuel + 1) 65 (.pointer (some ⟨qb, 1, none⟩)) "Push").run Try.prog w = .ok (80, .pointer (some ⟨qb, 1, none⟩)) w := by
  have hf : Array.find? (fun x => x.name == "Push") Try.t65.methods = some { name := "Push", sig := 73, path := #[], func := some (80, true) } := by kernel_rfl
  simp [method, hf, follow, receiverAt, Place.get]

set_option maxRecDepth 100000 in
theorem meth_pop_ (fuel : Nat) (qb : Nat) (w : World) : (method (fuel + 1) 65 (.pointer (some ⟨qb, 1, none⟩)) "Pop").run Try.prog w = .ok (79, .pointer (some ⟨qb, 1, none⟩)) w := by
  have hf : Array.find? (fun x => x.name == "Pop") Try.t65.methods = some { name := "Pop", sig := 85, path := #[], func := some (79, true) } := by kernel_rfl
  simp [method, hf, follow, receiverAt, Place.get]

theorem meth_len (qb : Nat) (v : Value) (w : World) (h : w.cell? ⟨qb, 1, none⟩ = some v) : (method 225 65 (.pointer (some ⟨qb, 1, none⟩)) "Len").run Try.prog w = .ok (76, v) w := meth_len_ 224 qb v w h
theorem meth_less (qb : Nat) (v : Value) (w : World) (h : w.cell? ⟨qb, 1, none⟩ = some v) : (method 225 65 (.pointer (some ⟨qb, 1, none⟩)) "Less").run Try.prog w = .ok (77, v) w := meth_less_ 224 qb v w h
theorem meth_swap (qb : Nat) (v : Value) (w : World) (h : w.cell? ⟨qb, 1, none⟩ = some v) : (method 225 65 (.pointer (some ⟨qb, 1, none⟩)) "Swap").run Try.prog w = .ok (78, v) w := meth_swap_ 224 qb v w h
theorem meth_push (qb : Nat) (w : World) : (method 225 65 (.pointer (some ⟨qb, 1, none⟩)) "Push").run Try.prog w = .ok (80, .pointer (some ⟨qb, 1, none⟩)) w := meth_push_ 224 qb w
theorem meth_pop (qb : Nat) (w : World) : (method 225 65 (.pointer (some ⟨qb, 1, none⟩)) "Pop").run Try.prog w = .ok (79, .pointer (some ⟨qb, 1, none⟩)) w := meth_pop_ 224 qb w

theorem less_pl {B : Nat} {w : World} {qb bm : Nat} {tn : Int} {g cap : Nat} {H : List Nd} (h : Pl B w qb tn bm (.slice (some ⟨g, 0, none⟩) H.length cap) H) {i j : Nat} (hi : i < H.length) (hj : j < H.length) {r : Bool} (hr : ltQ (fx H i) (fx H j) = r) :
    Calls Try.prog 77 #[.slice (some ⟨g, 0, none⟩) H.length cap, .int .i64 i, .int .i64 j] w fun e w' => e = .returned (.bool r) ∧ Pl B w' qb tn bm (.slice (some ⟨g, 0, none⟩) H.length cap) H ∧ Fq B none w w' := by
  subst hr
  refine (less_any h hi hj).mono fun e w' ⟨he, q, os, hw⟩ => ⟨he, ?_, ?_⟩
  · rw [hw]; exact h.kept (kept_grow w q os)
  · rw [hw]; exact Fq.grow _ _ _ _ h.base

set_option maxRecDepth 100000 in
theorem up_any {B : Nat} {w : World} {qb bm : Nat} {tn : Int} {g cap n : Nat} {H : List Nd} (h : Pl B w qb tn bm (.slice (some ⟨g, 0, none⟩) H.length cap) H) {j : Nat} (hj : j < n) (hn : n ≤ H.length) (hl : H.length ≤ 1000) (hu : UpF (fx H) n j) :
    Calls Try.prog 33 #[hv qb, .int .i64 j] w fun e w' => e = .returned (.tuple #[]) ∧ ∃ H', Pl B w' qb tn bm (.slice (some ⟨g, 0, none⟩) H.length cap) H' ∧ H'.length = H.length ∧ H'.Perm H ∧ Hp H' n ∧ (∀ k, n ≤ k → nd H' k = nd H k) ∧ Fq B none w w' := by
  unfold hv
  go_enter Try.func33, Try.ntmps33
  go_wp2
  go_loopw [1] (fun jv wr => ∃ (i : Nat) (H' : List Nd), jv = .int .i64 i ∧ i < n ∧ UpF (fx H') n i ∧ Pl B wr qb tn bm (.slice (some ⟨g, 0, none⟩) H'.length cap) H' ∧ H'.length = H.length ∧ H'.Perm H ∧ (∀ k, n ≤ k → nd H' k = nd H k) ∧ Fq B none w wr)
    (fun jv _ => (intOf jv).toNat)
  case atStart => exact ⟨j, H, rfl, hj, hu, h, rfl, .refl _, fun _ _ => rfl, Fq.refl _ _ _⟩
  case round =>
    obtain ⟨i, H', rfl, hi, hui, hP, hlen, hperm, hk, hF⟩ := hrel
    have hlen' : Hid (H'.length = H.length) := hlen
    have hk' : Hid (∀ k, n ≤ k → nd H' k = nd H k) := hk
    have hnn : n ≤ H'.length := by omega
    have hl' : H'.length ≤ 1000 := by omega
    clear hlen hk h hu hj
    by_cases h0 : i = 0
    · subst h0
      go_wp2
      go_end0
      exact ⟨rfl, H', by rw [← hlen'.out]; exact hP, hlen'.out, hperm, up_zero hui, hk'.out, hF⟩
    · obtain ⟨p, hp⟩ : ∃ p, p = (i - 1) / 2 := ⟨_, rfl⟩
      have hpz : ((i : Int) - 1) / 2 = (p : Int) := by omega
      have hpi : (p : Int) < (i : Int) := by omega
      have hp' : Hid ((i - 1) / 2 = p) := hp.symm
      clear hp
      have hm := meth_less _ _ _ hP.slot
      have hi1 : i < H'.length := by omega
      have hp1 : p < H'.length := by omega
      cases hlt : ltQ (fx H' i) (fx H' p)
      · have hless := less_pl hP hi1 hp1 hlt
        go_wp2_with (first | (go_at_call 77; refine hless.mono ?_; rintro e w1 ⟨rfl, hP1, hF1⟩) | go_in)
        go_end0
        refine ⟨rfl, H', by rw [← hlen'.out]; exact hP1, hlen'.out, hperm, up_done hui (by rw [hp'.out]; exact hlt), hk'.out, hF.trans hF1⟩
      · have hless := less_pl hP hi1 hp1 hlt
        go_wp2_with (first
          | (go_at_call 77; refine hless.mono ?_; rintro e w1 ⟨rfl, hP1, hF1⟩; have hm1 := meth_swap _ _ _ hP1.slot)
          | (go_at_call 78; refine (swap_any hP1 hp1 hi1 (by omega)).mono ?_; rintro e w2 ⟨rfl, hP2, hF2⟩)
          | go_in)
        refine ⟨⟨p, swq H' p i, rfl, by omega, ?_, ?_, ?_, ?_, ?_, ?_⟩, ?_⟩
        · refine up_step hui hi (by omega) hp'.out hlt ?_ ?_ ?_
          · simp only [fx]; rw [nd_swq hp1 hi1, if_neg (by omega), if_pos rfl]
          · simp only [fx]; rw [nd_swq hp1 hi1, if_pos rfl]
          · intro k _ h1 h2
            simp only [fx]; rw [nd_swq hp1 hi1, if_neg h2, if_neg h1]
        · rw [swq_len]; exact hP2
        · rw [swq_len]; exact hlen'.out
        · exact (swq_perm hp1 hi1).trans hperm
        · intro k hkn
          rw [nd_swq hp1 hi1, if_neg (by omega), if_neg (by omega)]
          exact hk'.out k hkn
        · exact (hF.trans hF1).trans hF2
        · simp [intOf]; omega

end Go.Proofs.Ythkhlgannimebaa
