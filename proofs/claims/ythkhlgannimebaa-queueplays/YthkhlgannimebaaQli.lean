/- List, walked: the pile is copied, the copy sorted by the program's own order, and told as items. -/
import Derived.Test.YthkhlgannimebaaQso
import Derived.Test.YthkhlgannimebaaQws
import Derived.Maps.AppendAt
import Derived.WalkSpells
namespace Go.Proofs.Ythkhlgannimebaa
open Go.RowKit Go.Maps Go.Shelf Go.Lib Go.Sort Qum
open Go.RowKit (Below)
set_option linter.unusedSectionVars false

theorem wpList_append_at {w : World} {ops : Array Oper} {rest : List Oper} {o : Oper} {a : Act} {Q : Exit → Act → World → Prop} (hg : o.guard = none)
    (s x : Operand) (hop : o.op = Op.call { callee := Callee.builtin Builtin.append, args := #[s, x], argTypes := #[57, 57] })
    {v : Value} {g c n B : Nat} {xs : List Value} (hB : B ≤ w.heap.size) (hs : a.eval s = v) (hx : a.eval x = .slice (some ⟨g, 0, none⟩) n c) (h0 : w.ownsRow B 60 1 v 0 []) (hl : xs.length = n) (hc : ∀ j u, xs[j]? = some u → w.cell? ⟨g, j, none⟩ = some u) (h1 : ∀ u ∈ xs, u.oneCell' = true) (hb : n ≤ 1000)
    (hK : ∀ v' w', w'.ownsRow B 60 1 v' n xs → w.grownBy w' v.ownBlock → wpList Try.prog ops Q rest (a.put o.dst v') w') :
    wpList Try.prog ops Q (o :: rest) a w := by
  obtain ⟨i0, hi, hz0, hz1, hz2⟩ := info_parts info_ptr
  refine wpList_plain hg fun K' hK' => ?_
  obtain ⟨v', w', hrun, r1, r2, _, _⟩ := run_append_own_at (P := Try.prog) (w := w) B 57 o.type 60 i0 (.pointer none) 1 8 Try.underlying57 hi hz0 hz1 hz2 rfl (by decide) v 0 [] h0 ⟨g, 0, none⟩ n c xs (by omega) (fun j u hu => by rw [Addr.add_lit, Nat.zero_add]; exact hc j u hu) h1 (by unfold maxLen; omega) (by omega) hB
  rw [Nat.zero_add, List.nil_append] at r1
  unfold Oper.wp
  simp [execOp, hop, resolve, invoke, builtin, hs, hx, hrun, Result.andThen]
  exact hK' _ _ (hK v' w' r1 r2)

theorem ownsRow_form {w : World} {B : Nat} {e : TypeId} {k : Nat} {v : Value} {n : Nat} {xs : List Value} (h : w.ownsRow B e k v n xs) : ∃ p cap, v = .slice p n cap := by
  rcases h.2 with ⟨rfl, rfl⟩ | ⟨g, cap, cur, rfl, _⟩
  · exact ⟨none, 0, rfl⟩
  · exact ⟨_, cap, rfl⟩

theorem ownsRow_base {w : World} {B B' : Nat} {e : TypeId} {k : Nat} {v : Value} {n : Nat} {xs : List Value} (h : w.ownsRow B e k v n xs) (hB : B' ≤ B) : w.ownsRow B' e k v n xs :=
  ⟨h.1, h.2.imp id fun ⟨g, cap, cur, hv, hb, r⟩ => ⟨g, cap, cur, hv, Nat.le_trans hB hb, r⟩⟩
set_option maxRecDepth 100000 in
theorem clone_any {w : World} {B : Nat} {v : Value} {n : Nat} {xs : List Value} (h : w.ownsRow B 60 1 v n xs) (h1 : ∀ u ∈ xs, u.oneCell' = true) (hn : n ≤ 1000) :
    Calls Try.prog 30 #[v] w fun e w' => ∃ (p : Option Addr) (cap : Nat), e = .returned (.slice p n cap) ∧ w'.ownsRow w.heap.size 60 1 (.slice p n cap) n xs ∧ Below w.heap.size w w' := by
  have hnil := fun (w : World) (a : Option Addr) (n c : Nat) => Lib.run_eql_slice_nil (P := Try.prog) w 57 60 a n c 0 0 Try.underlying57
  rcases h.2 with ⟨rfl, rfl⟩ | ⟨g, cap, cur, rfl, _⟩
  · have hx : xs = [] := List.eq_nil_of_length_eq_zero (by simpa using h.1)
    subst hx
    clear h h1
    go_enter Try.func30, Try.ntmps30
    go_wp2
    go_ret
    exact ⟨none, 0, rfl, World.ownsRow_nil _ _ _ _, Below.refl _ _⟩
  · have hlen : xs.length = n := by have := h.1; omega
    have hal : (w.alloc (.cells #[] 60)).ownsRow w.heap.size 60 1 (.slice (some ⟨w.heap.size, 0, none⟩) 0 0) 0 [] := ⟨rfl, Or.inr ⟨w.heap.size, 0, #[], rfl, Nat.le_refl _, heap_alloc_new w _, Nat.le_refl _, by unfold maxLen; omega, rfl, rfl⟩⟩
    have hcl : Hid (∀ j u, xs[j]? = some u → (w.alloc (.cells #[] 60)).cell? ⟨g, j, none⟩ = some u) := fun j u hu => by
      have hj : j < n := by have := (List.getElem?_eq_some_iff.1 hu).1; omega
      have := h.cellAt j (by omega)
      rw [hu] at this
      exact cell_alloc this _
    have hn' : Hid (n ≤ 1000) := hn
    have hbl : Hid (Below w.heap.size w (w.alloc (.cells #[] 60))) := (Below.refl _ _).alloc (Nat.le_refl _) _
    clear h hn
    go_enter Try.func30, Try.ntmps30
    go_wp2_with (first
      | (at_builtin; refine wpList_append_at (B := w.heap.size) rfl _ _ rfl (by simp) rfl rfl hal hlen hcl.out h1 hn'.out ?_; intro v' w2 r2 hg2; obtain ⟨p', c', rfl⟩ := ownsRow_form r2)
      | go_in)
    go_ret
    have hg3 : (w.alloc (.cells #[] 60)).grownBy w2 (some w.heap.size) := hg2
    refine ⟨p', c', rfl, r2, ⟨hg3.os, hg3.tape, hg3.output, ?_, fun k hk => ?_⟩⟩
    · have := hg3.size; simp at this; omega
    · rw [hg3.block k (by simp; omega) (fun e => by cases e; omega), Below.heap_alloc _ _ _ hk]

/-- A thing that lies in its block. -/
structure Tg (w : World) where
  v : Nd
  h : ∃ k, w.heap[v.b]? = some (thO v.x k)
def tgV (w : World) (y : Tg w) : Value := ptV y.v.b
def tgC (w : World) (x y : Tg w) : Int := cfQ x.v.x y.v.x
theorem ltOf_tgC (w : World) : (ltOf (tgC w) : Tg w → Tg w → Bool) = fun x y => ltQ x.v.x y.v.x := by
  funext x y
  unfold ltOf tgC cfQ cmpI ltQ
  rw [decide_eq_decide]
  repeat (first | omega | split)
theorem swo_tg (w : World) : SWO (ltOf (tgC w)) := by
  rw [ltOf_tgC]
  exact ⟨fun x => swoQ.irrefl _, fun x y z => swoQ.trans _ _ _, fun x y z => swoQ.ntrans _ _ _⟩

theorem sw_old {α : Type} [Inhabited α] (enc : α → Value) (w : World) (g m : Nat) (d : Array α) (os : Array Obj) {k : Nat} (hk : k < w.heap.size) (hne : k ≠ g) : (sortWorld enc w g 0 m d os).heap[k]? = w.heap[k]? := by
  have h1 : (putRow enc (Go.Sort.ahead w m) g 0 d).heap.size = w.heap.size := by simp [putRow, mapBlock, Go.Sort.ahead]
  unfold sortWorld
  rw [heap_grow_old _ _ (by omega)]
  simp [putRow, mapBlock, Go.Sort.ahead, Array.getElem?_modify, Ne.symm hne]
theorem sw_size {α : Type} [Inhabited α] (enc : α → Value) (w : World) (g m : Nat) (d : Array α) (os : Array Obj) : w.heap.size ≤ (sortWorld enc w g 0 m d os).heap.size := by
  unfold sortWorld
  simp [putRow, mapBlock, Go.Sort.ahead]

set_option maxRecDepth 100000 in
theorem len_bits (n : Nat) (w : World) (hn : n ≤ 1000) : Calls Try.prog 37 #[.int .u64 (n : Int)] w fun e w' => e = .returned (.int .i64 (Lib.bitLen n : Nat)) ∧ w' = w := by
  have h := Any.bits_Len (SlLaysF0.n15.bits (P := Try.prog) (ρ := Try.sortP_ren) { Try.sortP with }) (n : Int) w (by omega) (by omega)
  rwa [Int.toNat_natCast] at h

set_option maxRecDepth 100000 in
theorem ins_none (p : Option Addr) (cap : Nat) (fv : Value) (w : World) : Calls Try.prog 41 #[.slice p 0 cap, .int .i64 0, .int .i64 0, fv] w fun e w' => e = .returned (.tuple #[]) ∧ w' = w := by
  go_enter Try.func41, Try.ntmps41
  go_wp2
  refine wp_loop_rounds 1 ?_
  rw [rounds_succ]
  go_wp2
  go_end0
  exact ⟨rfl, rfl⟩
set_option maxRecDepth 100000 in
theorem pdq_none (p : Option Addr) (cap : Nat) (lim : Int) (fv : Value) (w : World) : Calls Try.prog 36 #[.slice p 0 cap, .int .i64 0, .int .i64 0, .int .i64 lim, fv] w fun e w' => e = .returned (.tuple #[]) ∧ w' = w := by
  have hi := ins_none
  go_enter Try.func36, Try.ntmps36
  go_wp2
  refine wp_loop_rounds 1 ?_
  rw [rounds_succ]
  go_wp2_with (first | (go_at_call 41; refine (hi _ _ _ _).mono ?_; rintro e w' ⟨rfl, rfl⟩) | go_in)
  exact bodyPost_ret (results_none rfl _ _ _) rfl ⟨rfl, rfl⟩

set_option maxRecDepth 100000 in
theorem sortP_none (p : Option Addr) (cap : Nat) (fv : Value) (w : World) : Calls Try.prog 31 #[.slice p 0 cap, fv] w fun e w' => e = .returned (.tuple #[]) ∧ w' = w := by
  have hp := pdq_none
  have hl := len_bits 0 w (by omega)
  go_enter Try.func31, Try.ntmps31
  go_wp2_with (first | (go_at_call 37; refine hl.mono ?_; rintro e w' ⟨rfl, rfl⟩) | (go_at_call 36; refine (hp _ _ _ _ _).mono ?_; rintro e w' ⟨rfl, rfl⟩) | go_in)
  go_end0
  exact ⟨rfl, rfl⟩

set_option maxRecDepth 100000 in
theorem sortP_any {w : World} [Inhabited (Tg w)] (g cap : Nat) (d : Array (Tg w)) (hH : Holds (tgV w) w g 0 d) (hg : ∃ cur, w.heap[g]? = some (.cells cur 60 (0, 0))) (hsz : d.size ≤ 1000) :
    Calls Try.prog 31 #[.slice (some ⟨g, 0, none⟩) d.size cap, .func (.func 32) #[] #[]] w fun e w' => e = .returned (.tuple #[]) ∧ ∃ d' n os, PermIn 0 d.size d d' ∧ SortedIn (ltOf (tgC w)) 0 d.size d' ∧ w' = sortWorld (tgV w) w g 0 n d' os := by
  have eg : ∀ args w, (callFunc 32 args).run Try.prog w = .ok (.enter 32 args) w := enters_of Try.func32 (by kernel_rfl) rfl
  obtain ⟨cur, hgc⟩ := hg
  have hgl := (Array.getElem?_eq_some_iff.1 hgc).1
  have hgne : ∀ x : Tg w, x.v.b ≠ g := fun x e => by
    obtain ⟨k, hx⟩ := x.h
    rw [e, hgc] at hx
    simp [thO] at hx
  have hcmp : CmpLays1 Try.prog 32 #[] (tgV w) (tgC w) g 0 d.size w := by
    intro m os dk _ x y
    obtain ⟨kx, hx⟩ := x.h
    obtain ⟨ky, hy⟩ := y.h
    exact order_any (ka := kx) (kb := ky) ((sw_old _ w g m dk os (Array.getElem?_eq_some_iff.1 hx).1 (hgne x)).trans hx) ((sw_old _ w g m dk os (Array.getElem?_eq_some_iff.1 hy).1 (hgne y)).trans hy)
  have hlim : Lib.bitLen d.size < 4611686018427387904 := Nat.lt_of_le_of_lt (Lib.bitLen_le d.size 62 (by omega) (by omega)) (by omega)
  have hp := Any.pdqsortCmpFunc_all (P := Try.prog) (ρ := Try.sortP_ren) Try.sortP (tgV w) (tgC w) 32 #[] (swo_tg w) g 0 cap d w eg hcmp ⟨fun _ => rfl, hH, hgl⟩ (d.size + 1) 0 d.size (Lib.bitLen d.size) d w (by omega) rfl (SW.start hH) (Nat.zero_le _) (Nat.le_refl _) (by omega) hlim (Or.inl rfl)
  have hs := pdq_sorts (ltOf (tgC w)) (swo_tg w) d 0 d.size (Lib.bitLen d.size) true true (Nat.zero_le _) (Nat.le_refl _) (Or.inl rfl)
  have hl := len_bits d.size w (by omega)
  have wr : IntKind.u64.wrap (d.size : Int) = d.size := by simp [IntKind.wrap, IntKind.bits, IntKind.signed]; omega
  have hsH : Hid _ := hs
  clear hH hcmp hs
  go_enter Try.func31, Try.ntmps31
  go_wp2_with (first | (go_at_call 37; refine hl.mono ?_; rintro e w' ⟨rfl, rfl⟩) | (go_at_call 36; refine hp.mono ?_; rintro e w' ⟨rfl, n, os, rfl⟩) | go_in)
  go_end0
  exact ⟨rfl, _, n, os, hsH.out.1, hsH.out.2, rfl⟩

theorem thg_mem {B : Nat} {w : World} {qb bm : Nat} {tn : Int} {v : Value} {H : List Nd} (h : Pl B w qb tn bm v H) : ∀ y ∈ H, ∃ k, w.heap[y.b]? = some (thO y.x k) := by
  intro y hy
  obtain ⟨k, hk, rfl⟩ := nd_of_mem hy
  exact ⟨k, h.thg k hk⟩
def tgs {w : World} {H : List Nd} (h : ∀ y ∈ H, ∃ k, w.heap[y.b]? = some (thO y.x k)) : List (Tg w) := H.attach.map fun y => ⟨y.1, h y.1 y.2⟩
theorem tgs_len {w : World} {H : List Nd} (h : ∀ y ∈ H, ∃ k, w.heap[y.b]? = some (thO y.x k)) : (tgs h).length = H.length := by simp [tgs]
theorem tgs_val {w : World} {H : List Nd} (h : ∀ y ∈ H, ∃ k, w.heap[y.b]? = some (thO y.x k)) : (tgs h).map (fun y => y.v) = H := by
  unfold tgs
  rw [List.map_map]
  exact List.attach_map_subtype_val H
theorem tgs_x {w : World} {H : List Nd} (h : ∀ y ∈ H, ∃ k, w.heap[y.b]? = some (thO y.x k)) : (tgs h).map (fun y => y.v.x) = H.map (·.x) := by
  conv => rhs; rw [← tgs_val h]
  rw [List.map_map]
  rfl
theorem tgs_cells {w : World} {H : List Nd} (h : ∀ y ∈ H, ∃ k, w.heap[y.b]? = some (thO y.x k)) : (tgs h).map (tgV w) = ptrs H := by
  conv => rhs; rw [← tgs_val h]
  unfold ptrs
  rw [List.map_map]
  rfl

theorem extract_all {α : Type} (d : Array α) : (d.extract 0 d.size).toList = d.toList := by simp

/-- The things that a sorted copy names, in their order: the row. -/
theorem tg_srt {w : World} [Inhabited (Tg w)] {H : List Nd} {L : List Th} (h : ∀ y ∈ H, ∃ k, w.heap[y.b]? = some (thO y.x k)) (hp : (H.map (·.x)).Perm L) (ht : L.Pairwise (fun x y => x.t ≠ y.t)) {d' : Array (Tg w)} (h1 : PermIn 0 (tgs h).toArray.size (tgs h).toArray d') (h2 : SortedIn (ltOf (tgC w)) 0 (tgs h).toArray.size d') :
    d'.toList.map (fun y => y.v.x) = srt L := by
  obtain ⟨e1, _, e3⟩ := h1
  have hperm : d'.toList.Perm (tgs h) := by
    rw [← e1] at e3
    rw [extract_all, e1, extract_all] at e3
    exact e3
  refine srt_unique ?_ ?_ ht
  · refine (hperm.map _).trans ?_
    rw [tgs_x]
    exact hp
  · rw [List.pairwise_map, List.pairwise_iff_getElem]
    intro i j hi hj hij
    have hi' : i < d'.size := by simpa using hi
    have hj' : j < d'.size := by simpa using hj
    have := h2 i j (Nat.zero_le _) hij (by omega)
    rw [ltOf_tgC, getElem!_pos d' i hi', getElem!_pos d' j hj'] at this
    simpa using this

/-- A row of pointers to things, sorted: what the loop over it reads. -/
structure Srow (w : World) (g n : Nat) (F : List Th) : Prop where
  len : F.length = n
  cel : ∀ j, j < n → ∃ b k, w.cell? ⟨g, j, none⟩ = some (ptV b) ∧ w.heap[b]? = some (thO (th F j) k)
  lt : n = 0 ∨ g < w.heap.size
theorem Srow.below {w w' : World} {g n : Nat} {F : List Th} (h : Srow w g n F) (hb : Below w.heap.size w w') : Srow w' g n F :=
  ⟨h.len, fun j hj => by
    obtain ⟨b, k, h1, h2⟩ := h.cel j hj
    exact ⟨b, k, (hb.cell (p := ⟨g, j, none⟩) (World.block_lt_of_cell? w _ h1)).trans h1, (hb.block b (Array.getElem?_eq_some_iff.1 h2).1).trans h2⟩, h.lt.imp id (fun h1 => Nat.lt_of_lt_of_le h1 hb.size)⟩

theorem sorted_any {w : World} {B qb bm n cap : Nat} {tn : Int} {v : Value} {H : List Nd} {p : Option Addr} {L : List Th} (hP : Pl B w qb tn bm v H) (hr : w.ownsRow B 60 1 (.slice p n cap) n (ptrs H)) (hn : H.length = n) (hl : n ≤ 1000) (hp : (H.map (·.x)).Perm L) (ht : L.Pairwise (fun x y => x.t ≠ y.t)) :
    Calls Try.prog 31 #[.slice p n cap, .func (.func 32) #[] #[]] w fun e w' => e = .returned (.tuple #[]) ∧ (∀ k, k < w.heap.size → (∀ g, p = some ⟨g, 0, none⟩ → k ≠ g) → w'.heap[k]? = w.heap[k]?) ∧ (w'.os = w.os ∧ w'.tape = w.tape ∧ w'.output = w.output ∧ w.heap.size ≤ w'.heap.size) ∧ (n = 0 ∨ ∃ g, p = some ⟨g, 0, none⟩ ∧ Srow w' g n (srt L)) := by
  rcases hr.2 with ⟨hv, rfl⟩ | ⟨g, cap', cur, hv, hgB, hg, h1, h2, h3, h4⟩
  · exact (sortP_none p cap _ w).mono fun e w' ⟨he, hw⟩ => ⟨he, fun k _ _ => by rw [hw], by rw [hw]; exact ⟨rfl, rfl, rfl, Nat.le_refl _⟩, Or.inl rfl⟩
  · obtain ⟨rfl, rfl⟩ : p = some ⟨g, 0, none⟩ ∧ cap = cap' := by simpa using hv
    by_cases h0 : n = 0
    · subst h0
      exact (sortP_none _ cap _ w).mono fun e w' ⟨he, hw⟩ => ⟨he, fun k _ _ => by rw [hw], by rw [hw]; exact ⟨rfl, rfl, rfl, Nat.le_refl _⟩, Or.inl rfl⟩
    · have hm := thg_mem hP
      have hdn : (tgs hm).toArray.size = n := by simp [tgs_len, hn]
      haveI : Inhabited (Tg w) := ⟨⟨nd H 0, hm _ (nd_mem (by omega))⟩⟩
      have hH : Holds (tgV w) w g 0 (tgs hm).toArray := by
        intro j hj
        refine ⟨?_, by simp [World.frozen?, hg]⟩
        have hj' : j < n := by omega
        rw [Nat.zero_add, hr.cellAt j (by omega), ← tgs_cells hm, List.getElem?_map, getElem!_pos _ j hj]
        have : (tgs hm)[j]? = some (tgs hm).toArray[j] := by simp
        rw [this]
        rfl
      have hs := sortP_any g cap (tgs hm).toArray hH ⟨cur, hg⟩ (by omega)
      rw [hdn] at hs
      refine hs.mono fun e w' ⟨he, d', m, os, q1, q2, hw⟩ => ⟨he, fun k hk hne => ?_, ?_, Or.inr ⟨g, rfl, ?_⟩⟩
      · rw [hw]; exact sw_old _ _ _ _ _ _ hk (hne g rfl)
      · rw [hw]; exact ⟨rfl, rfl, rfl, sw_size _ _ _ _ _ _⟩
      · have hsr := tg_srt hm hp ht (by rw [hdn]; exact q1) (by rw [hdn]; exact q2)
        have hd' : d'.size = n := by rw [q1.1, hdn]
        have hgl := (Array.getElem?_eq_some_iff.1 hg).1
        have hold := holds_sortWorld (tgV w) w g 0 m (tgs hm).toArray d' os hgl hH (by omega)
        refine ⟨by rw [← hsr]; simp [hd'], fun j hj => ?_, Or.inr (by rw [hw]; exact Nat.lt_of_lt_of_le hgl (sw_size _ _ _ _ _ _))⟩
        have hjd : j < d'.size := by omega
        obtain ⟨k, hk⟩ := (d'[j]!).h
        refine ⟨(d'[j]!).v.b, k, ?_, ?_⟩
        · rw [hw]
          have := (hold j hjd).1
          rw [Nat.zero_add] at this
          exact this
        · have e : th (srt L) j = (d'[j]!).v.x := by
            rw [← hsr, th_get (by simpa using hjd), getElem!_pos d' j hjd]
            simp
          rw [hw, e, sw_old _ _ _ _ _ _ (Array.getElem?_eq_some_iff.1 hk).1 (fun e2 => ?_)]
          · exact hk
          · rw [e2, hg] at hk
            simp [thO] at hk

set_option maxHeartbeats 1000000 in
set_option maxRecDepth 100000 in
theorem list_any {B : Nat} {w : World} {qb bm k : Nat} {S : Qu} (h : Que B w qb bm S) (hO : Ok k S) :
    Calls Try.prog 19 #[.pointer (some ⟨qb, 0, none⟩)] w fun e w' => ∃ (p : Option Addr) (cap : Nat), e = .returned (.slice p S.L.length cap) ∧ w'.ownsRow w.heap.size 30 2 (.slice p S.L.length cap) S.L.length (flatI (srt S.L)) ∧ Below w.heap.size w w' := by
  obtain ⟨v, H, D, hP, hHp, hperm, hown, hr, hBm⟩ := h
  have hlen := perm_len hperm
  have hl2 := hO.len
  have c1 := hP.slot
  have hcl := clone_any hP.row (fun u hu => by obtain ⟨y, _, rfl⟩ := List.mem_map.1 hu; rfl) (by omega)
  rw [hlen] at hcl
  have hst : Hid (∀ w2 p2 c2, w2.ownsRow w.heap.size 60 1 (.slice p2 S.L.length c2) S.L.length (ptrs H) → Below w.heap.size w w2 → Calls Try.prog 31 #[.slice p2 S.L.length c2, .func (.func 32) #[] #[]] w2 fun e w' => e = .returned (.tuple #[]) ∧ Below w.heap.size w w' ∧ (S.L.length = 0 ∨ ∃ g, p2 = some ⟨g, 0, none⟩ ∧ Srow w' g S.L.length (srt S.L))) := by
    intro w2 p2 c2 hr2 hb2
    have hP2 : Pl B w2 qb S.turns bm v H := hP.kept fun k hk => hb2.block k hk
    have hB := hP.base
    have hr2' : w2.ownsRow B 60 1 (.slice p2 S.L.length c2) S.L.length (ptrs H) := ownsRow_base hr2 hB
    refine (sorted_any hP2 hr2' hlen (by omega) hperm hO.tne).mono fun e w' ⟨he, q1, q2, q3⟩ => ⟨he, ⟨q2.1.trans hb2.os, q2.2.1.trans hb2.tape, q2.2.2.1.trans hb2.output, Nat.le_trans hb2.size q2.2.2.2, fun k hk => ?_⟩, q3⟩
    rw [q1 k (by have := hb2.size; omega) (fun g hg e => ?_), hb2.block k hk]
    have := (hr2.lt g (by rw [hg]; rfl)).1
    omega
  have hlH : Hid (S.L.length ≤ 200) := hl2
  clear hP hHp hperm hown hr hO hlen hl2
  generalize hn : S.L.length = n at *
  have hnH : Hid (S.L.length = n) := hn
  clear hn
  go_enter Try.func19, Try.ntmps19
  go_wp2_with (first
    | (go_at_call 30; refine hcl.mono ?_; rintro e w2 ⟨p2, c2, rfl, hr2, hb2⟩; have hsort := hst.out w2 p2 c2 hr2 hb2; clear hcl hst hr2)
    | (go_at_call 31; refine hsort.mono ?_; rintro e w3 ⟨rfl, hb3, hs3⟩; clear hsort)
    | (at_make; obtain ⟨i0, hi, hz0, hz1, hz2⟩ := info_parts info_item; refine wpList_make_own _ rfl _ _ 22 rfl w3.heap.size 30 i0 (.agg #[.int .i64 0, .int .i64 0]) 2 Try.underlying22 hi hz0 hz1 _ _ _ n rfl rfl rfl (by rw [hz2]; have := hlH.out; omega) (by unfold maxLen; have := hlH.out; omega) (Nat.le_refl _) ?_; intro w4 hown4 hgrow4; clear hi hz0 hz1 hz2)
    | go_in)
  have hstart : Hid (Below w3.heap.size w3 w4) := ⟨hgrow4.os, hgrow4.tape, hgrow4.output, hgrow4.size, fun k hk => hgrow4.block k hk (by simp)⟩
  clear hgrow4 c1
  go_loopw [4, 19] (fun ov iv wr => ∃ (j : Nat) (p : Option Addr) (c : Nat), ov = .slice p j c ∧ iv = .int .i64 j ∧ j ≤ n ∧ wr.ownsRow w3.heap.size 30 2 (.slice p j c) j (flatI ((srt S.L).take j)) ∧ Below w3.heap.size w3 wr)
    (fun _ iv _ => n - (intOf iv).toNat)
  case atStart => exact ⟨0, _, _, rfl, rfl, Nat.zero_le _, hown4, hstart.out⟩
  case round =>
    clear hown4 hstart
    obtain ⟨j, p, c, rfl, rfl, hjl, hown, hb3w⟩ := hrel
    · by_cases hj : j < n
      · rcases hs3 with h0 | ⟨g, rfl, hS⟩
        · omega
        obtain ⟨b, kk, z0, z1⟩ := (hS.below hb3w).cel j hj
        obtain ⟨t0, t1, _, _⟩ := th_cells z1
        have hsn : Hid (flatI ((srt S.L).take (j + 1)) = flatI ((srt S.L).take j) ++ [.int .i64 (th (srt S.L) j).p, .int .i64 (th (srt S.L) j).i]) := by
          show _ = _
          rw [take_snoc (by rw [hS.len]; exact hj), flatI_snoc]
        have hji : (j : Int) < (n : Int) := by omega
        have hj2 : Hid (j ≤ 200) := Nat.le_trans hjl hlH.out
        have hszw := hb3w.size
        generalize th (srt S.L) j = x at *
        unfold ptV at z0
        clear hS z1
        go_wp2_with (first
          | (at_builtin; (obtain ⟨i0, hi, hz0, hz1, hz2⟩ := info_parts info_item; refine wpList_append_own _ rfl _ _ 22 rfl w3.heap.size 30 i0 (.agg #[.int .i64 0, .int .i64 0]) 2 16 Try.underlying22 hi hz0 hz1 hz2 rfl (by decide) _ _ _ rfl (hown.alloc _) ⟨wr.heap.size, 0, none⟩ 1 1 [.int .i64 x.p, .int .i64 x.i] rfl rfl (cells_new _ _ _) (fun v hv => by simp at hv; rcases hv with rfl | rfl <;> rfl) (by unfold maxLen; have := hj2.out; omega) (by have := hj2.out; omega) (by simp; omega) ?_; intro v' w5 hown5 hgrow5 hnil5; clear hi hz0 hz1 hz2 hnil5; obtain ⟨g5, cap5, rfl⟩ := form_succ hown5))
          | go_in)
        have hgA : (wr.alloc (.cells #[.int .i64 x.p, .int .i64 x.i] 30)).grownBy w5 (Value.ownBlock (.slice p j c)) := hgrow5
        refine ⟨⟨j + 1, _, cap5, rfl, ?_, hj, ?_, ?_⟩, ?_⟩
        · have := hj2.out
          first | exact int_succ j | exact int_wsucc (by omega)
        · rw [hsn.out]; exact hown5
        · refine ⟨hgA.os.trans hb3w.os, hgA.tape.trans hb3w.tape, hgA.output.trans hb3w.output, ?_, fun k hk => ?_⟩
          · have := hgA.size
            simp at this
            omega
          · rw [hgA.block k (by simp; omega) (fun e => by have := (hown.lt k e.symm).1; omega), Below.heap_alloc _ _ _ (by omega), hb3w.block k hk]
        · have := hj2.out
          first | exact meas_1 hj | exact meas_w hj (by omega)
      · have hji : ¬ (j : Int) < (n : Int) := by omega
        have e : j = n := by omega
        subst e
        go_wp2
        go_ret
        rw [List.take_of_length_le (by rw [srt_len, hnH.out]; exact Nat.le_refl _)] at hown
        exact ⟨p, c, rfl, ownsRow_base hown hb3.size, hb3.trans (hb3w.mono hb3.size)⟩
end Go.Proofs.Ythkhlgannimebaa
