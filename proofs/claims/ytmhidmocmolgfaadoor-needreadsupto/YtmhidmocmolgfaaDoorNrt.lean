/- The reference's NeedText, walked. -/
import Derived.Test.YtmhidmocmolgfaaDoorNrq
import Derived.Test.YtmhidmocmolgfaaDoorNdr
import Derived.Deep.RegionWith
import Derived.Test.YtmhidmocmolgfaaDoorTko
namespace Go.Proofs.YtmhidmocmolgfaaDoor
open Go.RowKit Ndm Txt
set_option linter.unusedSectionVars false
set_option linter.unusedVariables false

/-- The text so far. -/
def jn (a : N3) (k : Nat) : List UInt8 := Lib.join (itL a k) [44]
theorem itN_len25 {i : Nat} {n : Int} (h0 : 0 ≤ n) (h1 : n ≤ 9223372036854775807) : (itN i n).length ≤ 25 := by
  have := Lib.itoa_length_le n (by omega) (by omega)
  have e : (nmB i).length = 3 := by unfold nmB; split <;> rfl
  simp [itN, e]
  omega

theorem join_snoc : ∀ (L : List (List UInt8)) (x : List UInt8), L ≠ [] → Lib.join (L ++ [x]) [44] = Lib.join L [44] ++ 44 :: x
  | [], _, h => absurd rfl h
  | [p], x, _ => by
    show Lib.join [p, x] [44] = _
    rw [join_two, Lib.join_one, Lib.join_one]
  | p :: q :: r, x, _ => by
    show Lib.join (p :: q :: (r ++ [x])) [44] = _
    rw [join_two, join_two, List.append_assoc]
    have := join_snoc (q :: r) x (by simp)
    rw [show q :: (r ++ [x]) = (q :: r) ++ [x] from rfl, this]
    rfl
theorem itL_mem {a : N3} {k : Nat} {b : List UInt8} (hb : b ∈ itL a k) : ∃ i n, b = itN i n := by
  have h1 : ∀ i n, b ∈ it1 i n → ∃ i n, b = itN i n := fun i n h => by
    unfold it1 at h
    split at h
    · cases h
    · exact ⟨i, n, by simpa using h⟩
  unfold itL at hb
  split at hb
  · cases hb
  · exact h1 _ _ hb
  · rcases List.mem_append.1 hb with h | h
    · exact h1 _ _ h
    · exact h1 _ _ h
  · rcases List.mem_append.1 hb with h | h
    · rcases List.mem_append.1 h with h | h
      · exact h1 _ _ h
      · exact h1 _ _ h
    · exact h1 _ _ h
theorem jn_pos {a : N3} {k : Nat} (h : itL a k ≠ []) : (jn a k).isEmpty = false := by
  unfold jn
  cases hL : itL a k with
  | nil => exact absurd hL h
  | cons b L =>
    obtain ⟨i, n, rfl⟩ := itL_mem (a := a) (k := k) (b := b) (by rw [hL]; simp)
    have h4 := itN_len4 i n
    cases hI : itN i n with
    | nil => rw [hI] at h4; simp at h4
    | cons c r =>
      cases L with
      | nil => rw [Lib.join_one]; rfl
      | cons p q => rw [join_two]; rfl
theorem join_le : ∀ (L : List (List UInt8)), (∀ x ∈ L, x.length ≤ 25) → (Lib.join L [44]).length ≤ 26 * L.length
  | [], _ => by rw [Lib.join_nil]; simp
  | [p], h => by rw [Lib.join_one]; have := h p (by simp); simp; omega
  | p :: q :: r, h => by
    have i1 := join_le (q :: r) (fun x hx => h x (by simp at hx ⊢; right; exact hx))
    have i2 := h p (by simp)
    rw [join_two]
    simp at i1 ⊢
    omega
theorem jn_len {a : N3} (h : nnN a) (k : Nat) : (jn a k).length ≤ 78 := by
  have h3 := itL_len a k
  have := join_le (itL a k) (fun x hx => by
    obtain ⟨⟨x1, x2⟩, ⟨y1, y2⟩, z1, z2⟩ := h
    have h1 : ∀ i n, 0 ≤ n → n ≤ 9223372036854775807 → x ∈ it1 i n → x.length ≤ 25 := fun i n n0 n1 h => by
      unfold it1 at h
      split at h
      · cases h
      · obtain rfl : x = itN i n := by simpa using h
        exact itN_len25 n0 n1
    unfold itL at hx
    split at hx
    · cases hx
    · exact h1 _ _ x1 x2 hx
    · rcases List.mem_append.1 hx with h | h
      · exact h1 _ _ x1 x2 h
      · exact h1 _ _ y1 y2 h
    · rcases List.mem_append.1 hx with h | h
      · rcases List.mem_append.1 h with h | h
        · exact h1 _ _ x1 x2 h
        · exact h1 _ _ y1 y2 h
      · exact h1 _ _ z1 z2 h)
  unfold jn
  omega

set_option maxHeartbeats 16000000 in
set_option maxRecDepth 100000 in
theorem textR_any (a : N3) (w : World) (ha : nnN a) : Calls Tryd.prog 13 #[(.agg #[.int .i64 a.x, .int .i64 a.y, .int .i64 a.z])] w fun e w' => e = .returned (.string ⟨(txN a).toArray⟩) ∧ Below w.heap.size w w' := by
  have h1 : (w.alloc (.cells #[.int .i64 a.x, .int .i64 a.y, .int .i64 a.z] 23)).heap[w.heap.size]? = some (.cells #[.int .i64 a.x, .int .i64 a.y, .int .i64 a.z] 23 (0, 0)) := heap_alloc_new _ _
  have hB0 : Hid (Below w.heap.size w (w.alloc (.cells #[.int .i64 a.x, .int .i64 a.y, .int .i64 a.z] 23))) := (Below.refl _ _).alloc (Nat.le_refl _) _
  have ham := amR_any a (w.alloc (.cells #[.int .i64 a.x, .int .i64 a.y, .int .i64 a.z] 23))
  have i0 := ix0 a.x a.y a.z
  have i1 := ix1 a.x a.y a.z
  have i2 := ix2 a.x a.y a.z
  have haH : Hid (nnN a) := ha
  clear ha
  go_enter Tryd.func13, Tryd.ntmps13
  go_wp2_with (first
    | (refine load_wanted rfl 23 _ rfl _ rfl _ _ _ _ h1 Tryd.underlying23 rfl (need_info _ rfl) ?_)
    | (go_at_call 41; refine ham.mono ?_; rintro e w3 ⟨rfl, hb3⟩; have hB3 : Hid (Below w.heap.size w w3) := hB0.out.trans (hb3.mono hB0.out.size); clear ham hb3)
    | go_in)
  go_loopw [3, 8] (fun sv iv wr => ∃ (k : Nat), (k = 0 ∧ iv = .int .i64 0 ∨ k = 1 ∧ iv = .int .i64 1 ∨ k = 2 ∧ iv = .int .i64 2 ∨ k = 3 ∧ iv = .int .i64 3) ∧ sv = .string ⟨(jn a k).toArray⟩ ∧ Below w3.heap.size w3 wr)
    (fun _ iv _ => 3 - (intOf iv).toNat)
  case atStart => exact ⟨0, Or.inl ⟨rfl, rfl⟩, rfl, Below.refl _ _⟩
  case round =>
    obtain ⟨k, hk, rfl, hbl⟩ := hrel
    have hBr : Hid (Below w.heap.size w wr) := hB3.out.trans (hbl.mono hB3.out.size)
    have hblH : Hid (Below w3.heap.size w3 wr) := hbl
    have hsz3 : Hid (w3.heap.size ≤ wr.heap.size) := hbl.size
    clear hbl h1
    rcases hk with ⟨rfl, rfl⟩ | ⟨rfl, rfl⟩ | ⟨rfl, rfl⟩ | ⟨rfl, rfl⟩
    · by_cases hx : a.x = 0
      · have hxx : (a.x == 0) = true := by simpa using hx
        have hL : Hid (jn a 1 = jn a 0) := by
          show _ = _
          simp [jn, itL, it1, hx]
        clear hx
        generalize jn a 0 = js at *
        go_wp2
        refine ⟨⟨1, Or.inr (Or.inl ⟨rfl, by first | rfl | simp⟩), by rw [hL.out], hblH.out⟩, ?_⟩
        simp [intOf]
      · have hxx : (a.x == 0) = false := by simpa using hx
        have hL : itL a 1 = itL a 0 ++ [itN 0 a.x] := by
          simp [itL, it1, hx]
        obtain ⟨⟨x1, x2⟩, ⟨x3, x4⟩, x5, x6⟩ := haH.out
        have n0 : 0 ≤ a.x := by assumption
        have n1 : a.x ≤ 9223372036854775807 := by assumption
        obtain ⟨v, hv⟩ := Int.eq_ofNat_of_zero_le n0
        have hde := fun w1 => Decimal_pos v w1 (by omega)
        rw [show ((v : Nat) : Int) = a.x from hv.symm] at hde
        have hit : Lib.itoa a.x = Lib.decDigits v := by
          unfold Lib.itoa
          rw [if_neg (by omega), hv]
          rfl
        have hdl := dec_len (u := v) (by omega)
        have hjl := jn_len haH.out 0
        have hIt : itN 0 a.x = [99, 112, 117, 61] ++ Lib.decDigits v := by
          show nmB 0 ++ ([61] ++ Lib.itoa a.x) = _
          rw [hit]
          rfl
        rw [hIt] at hL
        generalize Lib.decDigits v = d at *
        clear hv hit hIt n0 n1 x1 x2 x3 x4 x5 x6 hx
        by_cases he : itL a 0 = []
        · have hj : jn a 0 = [] := by unfold jn; rw [he]; rfl
          obtain ⟨sj, hsj⟩ : ∃ sj : ByteArray, sj = ⟨#[]⟩ := ⟨_, rfl⟩
          have hRes : Hid (sj ++ (⟨#[99, 112, 117, 61]⟩ ++ ⟨d.toArray⟩) = ⟨(jn a 1).toArray⟩) := by
            show _ = _
            unfold jn
            rw [hL, he, hsj, List.nil_append, Lib.join_one, show (#[] : Array UInt8) = ([] : List UInt8).toArray from rfl, show (#[99, 112, 117, 61] : Array UInt8) = ([99, 112, 117, 61] : List UInt8).toArray from rfl, ByteArray.mk_append_mk, ByteArray.mk_append_mk]
            rfl
          have hss : sj.size ≤ 80 := by rw [hsj]; decide
          have hnl : ¬ (9223372036854775807 < 4 + d.length) := by omega
          have hnl2 : ¬ (9223372036854775807 < sj.size + (4 + d.length)) := by omega
          rw [hj, show (⟨([] : List UInt8).toArray⟩ : ByteArray) = sj from hsj.symm]
          have hse : sj.toList.isEmpty = true := by rw [hsj, ByteArray.toList_eq]; rfl
          clear hj he hsj hL hjl
          go_wp2
          refine Tkc.region_anyC (C := fun _ => True) (s := 9) (by kernel_rfl) ?_
          have hBd : Hid (Below w3.heap.size w3 wr.drew) := hblH.out.drew
          generalize wr.drew = wd at *
          refine Tkc.takeC (i := 0) (v := .string sj) rfl (by kernel_rfl) (by kernel_rfl) (by kernel_rfl) (fun _ _ _ h => h) (by decide) (by kernel_rfl) (by kernel_rfl) trivial ⟨by rfl, fun w hw => by go_simp⟩ ?_
          try go_frame
          refine Tkc.takeC (i := 2) (v := .int .i64 0) rfl (by kernel_rfl) (by kernel_rfl) (by kernel_rfl) (fun _ _ _ h => h) (by decide) (by kernel_rfl) (by kernel_rfl) trivial ⟨by rfl, fun w hw => by go_simp⟩ ?_
          try go_frame
          refine Tkc.takeC (i := 5) (v := .int .i64 a.x) rfl (by kernel_rfl) (by kernel_rfl) (by kernel_rfl) (fun _ _ _ h => h) (by decide) (by kernel_rfl) (by kernel_rfl) trivial ⟨by rfl, fun w hw => by go_simp⟩ ?_
          try go_frame
          refine Tkc.manyC [1, 6] (by kernel_rfl) (by decide) (fun _ => trivial) ?_
          intro i hi
          rcases (show i = 1 ∨ i = 6 by simpa using hi) with rfl | rfl
          · clear hi
            refine Tkc.opC (i := 1) rfl (by rfl) (fun K hK => ?_)
            go_simp
            refine hK _ _ ?_
            clear hK K
            try go_frame
            have hnw := cells_new wd [.string ⟨#[99, 112, 117, 61]⟩, .string ⟨#[109, 101, 109, 61]⟩, .string ⟨#[103, 112, 117, 61]⟩] 9 0 _ rfl
            rw [Addr.add_lit, Nat.zero_add] at hnw
            have hBa : Below w3.heap.size w3 (wd.alloc (.cells #[.string ⟨#[99, 112, 117, 61]⟩, .string ⟨#[109, 101, 109, 61]⟩, .string ⟨#[103, 112, 117, 61]⟩] 9)) := hBd.out.alloc hBd.out.size _
            have hBaH : Hid (Below w3.heap.size w3 (wd.alloc (.cells #[.string ⟨#[99, 112, 117, 61]⟩, .string ⟨#[109, 101, 109, 61]⟩, .string ⟨#[103, 112, 117, 61]⟩] 9))) := hBa
            clear hBa
            have hnw : (wd.alloc (.cells #[.string ⟨#[99, 112, 117, 61]⟩, .string ⟨#[109, 101, 109, 61]⟩, .string ⟨#[103, 112, 117, 61]⟩] 9)).cell? ⟨wd.heap.size, 0, none⟩ = some (.string ⟨#[99, 112, 117, 61]⟩) := hnw
            generalize wd.alloc (.cells #[.string ⟨#[99, 112, 117, 61]⟩, .string ⟨#[109, 101, 109, 61]⟩, .string ⟨#[103, 112, 117, 61]⟩] 9) = we at *
            refine Tkc.takeC (i := 3) (v := .pointer (some ⟨wd.heap.size, 0, none⟩)) rfl (by kernel_rfl) (by kernel_rfl) (by kernel_rfl) (fun _ _ _ h => h) (by decide) (by kernel_rfl) (by kernel_rfl) trivial ⟨by rfl, fun w hw => by go_simp⟩ ?_
            try go_frame
            refine Tkc.manyC [4, 6] (by kernel_rfl) (by decide) (fun _ => trivial) ?_
            intro i hi
            rcases (show i = 4 ∨ i = 6 by simpa using hi) with rfl | rfl
            · clear hi
              refine Tkc.opC (i := 4) rfl (by rfl) (fun K hK => ?_)
              go_simp
              refine hK _ _ ?_
              clear hK K
              try go_frame
              refine Tkc.onlyC (i := 6) rfl (by kernel_rfl) (fun _ => trivial) (by rfl) (fun K hK => ?_)
              go_simp
              refine (hde _).mono ?_
              rintro e w6 ⟨rfl, hw6⟩
              have hw7 := hw6.symm
              subst hw7
              refine hK _ _ ?_
              clear hK K
              try go_frame
              refine Tkc.onlyC (i := 7) rfl (by kernel_rfl) (fun _ => trivial) (by rfl) (fun K hK => ?_)
              go_simp
              refine hK _ _ ?_
              clear hK K
              try go_frame
              try go_frame
              refine Tkc.onlyC (i := 8) rfl (by kernel_rfl) (fun _ => trivial) (by rfl) (fun K hK => ?_)
              go_simp
              refine hK _ _ ?_
              clear hK K
              try go_frame
              refine Tkc.onlyC (i := 9) rfl (by kernel_rfl) (fun _ => trivial) (by rfl) (fun K hK => ?_)
              go_simp
              refine hK _ _ ?_
              clear hK K
              try go_frame
              refine Tkc.doneC (by kernel_rfl) (fun _ => trivial) ?_
              go_wp2
              refine ⟨⟨1, Or.inr (Or.inl ⟨rfl, by first | rfl | simp⟩), ?_, hBaH.out⟩, ?_⟩
              · rw [← hRes.out]
              · simp [intOf]
            · clear hi
              refine Tkc.opC (i := 6) rfl (by rfl) (fun K hK => ?_)
              go_simp
              refine (hde _).mono ?_
              rintro e w6 ⟨rfl, hw6⟩
              have hw7 := hw6.symm
              subst hw7
              refine hK _ _ ?_
              clear hK K
              try go_frame
              refine Tkc.onlyC (i := 4) rfl (by kernel_rfl) (fun _ => trivial) (by rfl) (fun K hK => ?_)
              go_simp
              refine hK _ _ ?_
              clear hK K
              try go_frame
              refine Tkc.onlyC (i := 7) rfl (by kernel_rfl) (fun _ => trivial) (by rfl) (fun K hK => ?_)
              go_simp
              refine hK _ _ ?_
              clear hK K
              try go_frame
              try go_frame
              refine Tkc.onlyC (i := 8) rfl (by kernel_rfl) (fun _ => trivial) (by rfl) (fun K hK => ?_)
              go_simp
              refine hK _ _ ?_
              clear hK K
              try go_frame
              refine Tkc.onlyC (i := 9) rfl (by kernel_rfl) (fun _ => trivial) (by rfl) (fun K hK => ?_)
              go_simp
              refine hK _ _ ?_
              clear hK K
              try go_frame
              refine Tkc.doneC (by kernel_rfl) (fun _ => trivial) ?_
              go_wp2
              refine ⟨⟨1, Or.inr (Or.inl ⟨rfl, by first | rfl | simp⟩), ?_, hBaH.out⟩, ?_⟩
              · rw [← hRes.out]
              · simp [intOf]
          · clear hi
            refine Tkc.opC (i := 6) rfl (by rfl) (fun K hK => ?_)
            go_simp
            refine (hde _).mono ?_
            rintro e w6 ⟨rfl, hw6⟩
            have hw7 := hw6.symm
            subst hw7
            refine hK _ _ ?_
            clear hK K
            try go_frame
            refine Tkc.onlyC (i := 1) rfl (by kernel_rfl) (fun _ => trivial) (by rfl) (fun K hK => ?_)
            go_simp
            refine hK _ _ ?_
            clear hK K
            try go_frame
            have hnw := cells_new wd [.string ⟨#[99, 112, 117, 61]⟩, .string ⟨#[109, 101, 109, 61]⟩, .string ⟨#[103, 112, 117, 61]⟩] 9 0 _ rfl
            rw [Addr.add_lit, Nat.zero_add] at hnw
            have hBa : Below w3.heap.size w3 (wd.alloc (.cells #[.string ⟨#[99, 112, 117, 61]⟩, .string ⟨#[109, 101, 109, 61]⟩, .string ⟨#[103, 112, 117, 61]⟩] 9)) := hBd.out.alloc hBd.out.size _
            have hBaH : Hid (Below w3.heap.size w3 (wd.alloc (.cells #[.string ⟨#[99, 112, 117, 61]⟩, .string ⟨#[109, 101, 109, 61]⟩, .string ⟨#[103, 112, 117, 61]⟩] 9))) := hBa
            clear hBa
            have hnw : (wd.alloc (.cells #[.string ⟨#[99, 112, 117, 61]⟩, .string ⟨#[109, 101, 109, 61]⟩, .string ⟨#[103, 112, 117, 61]⟩] 9)).cell? ⟨wd.heap.size, 0, none⟩ = some (.string ⟨#[99, 112, 117, 61]⟩) := hnw
            generalize wd.alloc (.cells #[.string ⟨#[99, 112, 117, 61]⟩, .string ⟨#[109, 101, 109, 61]⟩, .string ⟨#[103, 112, 117, 61]⟩] 9) = we at *
            refine Tkc.takeC (i := 3) (v := .pointer (some ⟨wd.heap.size, 0, none⟩)) rfl (by kernel_rfl) (by kernel_rfl) (by kernel_rfl) (fun _ _ _ h => h) (by decide) (by kernel_rfl) (by kernel_rfl) trivial ⟨by rfl, fun w hw => by go_simp⟩ ?_
            try go_frame
            refine Tkc.onlyC (i := 4) rfl (by kernel_rfl) (fun _ => trivial) (by rfl) (fun K hK => ?_)
            go_simp
            refine hK _ _ ?_
            clear hK K
            try go_frame
            refine Tkc.onlyC (i := 7) rfl (by kernel_rfl) (fun _ => trivial) (by rfl) (fun K hK => ?_)
            go_simp
            refine hK _ _ ?_
            clear hK K
            try go_frame
            try go_frame
            refine Tkc.onlyC (i := 8) rfl (by kernel_rfl) (fun _ => trivial) (by rfl) (fun K hK => ?_)
            go_simp
            refine hK _ _ ?_
            clear hK K
            try go_frame
            refine Tkc.onlyC (i := 9) rfl (by kernel_rfl) (fun _ => trivial) (by rfl) (fun K hK => ?_)
            go_simp
            refine hK _ _ ?_
            clear hK K
            try go_frame
            refine Tkc.doneC (by kernel_rfl) (fun _ => trivial) ?_
            go_wp2
            refine ⟨⟨1, Or.inr (Or.inl ⟨rfl, by first | rfl | simp⟩), ?_, hBaH.out⟩, ?_⟩
            · rw [← hRes.out]
            · simp [intOf]
        · have hnlE := jn_pos he
          obtain ⟨sj, hsj⟩ : ∃ sj : ByteArray, sj = ⟨(jn a 0).toArray⟩ ++ ⟨#[44]⟩ := ⟨_, rfl⟩
          have hRes : Hid (sj ++ (⟨#[99, 112, 117, 61]⟩ ++ ⟨d.toArray⟩) = ⟨(jn a 1).toArray⟩) := by
            show _ = _
            rw [hsj]
            unfold jn
            rw [hL, join_snoc _ _ he, show (#[44] : Array UInt8) = ([44] : List UInt8).toArray from rfl, show (#[99, 112, 117, 61] : Array UInt8) = ([99, 112, 117, 61] : List UInt8).toArray from rfl, ByteArray.mk_append_mk, ByteArray.mk_append_mk, ByteArray.mk_append_mk]
            simp
          have hss : sj.size ≤ 80 := by rw [hsj, ByteArray.size_append, mk_size]; have : (ByteArray.mk #[44]).size = 1 := rfl; omega
          have hnl : ¬ (9223372036854775807 < 4 + d.length) := by omega
          have hnl2 : ¬ (9223372036854775807 < sj.size + (4 + d.length)) := by omega
          have HSJ : Hid (sj = ⟨(jn a 0).toArray⟩ ++ ⟨#[44]⟩) := hsj
          clear he hsj hL
          generalize jn a 0 = js at *
          go_wp2
          rw [← HSJ.out]
          refine Tkc.region_anyC (C := fun _ => True) (s := 9) (by kernel_rfl) ?_
          have hBd : Hid (Below w3.heap.size w3 wr.drew) := hblH.out.drew
          generalize wr.drew = wd at *
          refine Tkc.takeC (i := 0) (v := .string sj) rfl (by kernel_rfl) (by kernel_rfl) (by kernel_rfl) (fun _ _ _ h => h) (by decide) (by kernel_rfl) (by kernel_rfl) trivial ⟨by rfl, fun w hw => by go_simp⟩ ?_
          try go_frame
          refine Tkc.takeC (i := 2) (v := .int .i64 0) rfl (by kernel_rfl) (by kernel_rfl) (by kernel_rfl) (fun _ _ _ h => h) (by decide) (by kernel_rfl) (by kernel_rfl) trivial ⟨by rfl, fun w hw => by go_simp⟩ ?_
          try go_frame
          refine Tkc.takeC (i := 5) (v := .int .i64 a.x) rfl (by kernel_rfl) (by kernel_rfl) (by kernel_rfl) (fun _ _ _ h => h) (by decide) (by kernel_rfl) (by kernel_rfl) trivial ⟨by rfl, fun w hw => by go_simp⟩ ?_
          try go_frame
          refine Tkc.manyC [1, 6] (by kernel_rfl) (by decide) (fun _ => trivial) ?_
          intro i hi
          rcases (show i = 1 ∨ i = 6 by simpa using hi) with rfl | rfl
          · clear hi
            refine Tkc.opC (i := 1) rfl (by rfl) (fun K hK => ?_)
            go_simp
            refine hK _ _ ?_
            clear hK K
            try go_frame
            have hnw := cells_new wd [.string ⟨#[99, 112, 117, 61]⟩, .string ⟨#[109, 101, 109, 61]⟩, .string ⟨#[103, 112, 117, 61]⟩] 9 0 _ rfl
            rw [Addr.add_lit, Nat.zero_add] at hnw
            have hBa : Below w3.heap.size w3 (wd.alloc (.cells #[.string ⟨#[99, 112, 117, 61]⟩, .string ⟨#[109, 101, 109, 61]⟩, .string ⟨#[103, 112, 117, 61]⟩] 9)) := hBd.out.alloc hBd.out.size _
            have hBaH : Hid (Below w3.heap.size w3 (wd.alloc (.cells #[.string ⟨#[99, 112, 117, 61]⟩, .string ⟨#[109, 101, 109, 61]⟩, .string ⟨#[103, 112, 117, 61]⟩] 9))) := hBa
            clear hBa
            have hnw : (wd.alloc (.cells #[.string ⟨#[99, 112, 117, 61]⟩, .string ⟨#[109, 101, 109, 61]⟩, .string ⟨#[103, 112, 117, 61]⟩] 9)).cell? ⟨wd.heap.size, 0, none⟩ = some (.string ⟨#[99, 112, 117, 61]⟩) := hnw
            generalize wd.alloc (.cells #[.string ⟨#[99, 112, 117, 61]⟩, .string ⟨#[109, 101, 109, 61]⟩, .string ⟨#[103, 112, 117, 61]⟩] 9) = we at *
            refine Tkc.takeC (i := 3) (v := .pointer (some ⟨wd.heap.size, 0, none⟩)) rfl (by kernel_rfl) (by kernel_rfl) (by kernel_rfl) (fun _ _ _ h => h) (by decide) (by kernel_rfl) (by kernel_rfl) trivial ⟨by rfl, fun w hw => by go_simp⟩ ?_
            try go_frame
            refine Tkc.manyC [4, 6] (by kernel_rfl) (by decide) (fun _ => trivial) ?_
            intro i hi
            rcases (show i = 4 ∨ i = 6 by simpa using hi) with rfl | rfl
            · clear hi
              refine Tkc.opC (i := 4) rfl (by rfl) (fun K hK => ?_)
              go_simp
              refine hK _ _ ?_
              clear hK K
              try go_frame
              refine Tkc.onlyC (i := 6) rfl (by kernel_rfl) (fun _ => trivial) (by rfl) (fun K hK => ?_)
              go_simp
              refine (hde _).mono ?_
              rintro e w6 ⟨rfl, hw6⟩
              have hw7 := hw6.symm
              subst hw7
              refine hK _ _ ?_
              clear hK K
              try go_frame
              refine Tkc.onlyC (i := 7) rfl (by kernel_rfl) (fun _ => trivial) (by rfl) (fun K hK => ?_)
              go_simp
              refine hK _ _ ?_
              clear hK K
              try go_frame
              try go_frame
              refine Tkc.onlyC (i := 8) rfl (by kernel_rfl) (fun _ => trivial) (by rfl) (fun K hK => ?_)
              go_simp
              refine hK _ _ ?_
              clear hK K
              try go_frame
              refine Tkc.onlyC (i := 9) rfl (by kernel_rfl) (fun _ => trivial) (by rfl) (fun K hK => ?_)
              go_simp
              refine hK _ _ ?_
              clear hK K
              try go_frame
              refine Tkc.doneC (by kernel_rfl) (fun _ => trivial) ?_
              go_wp2
              refine ⟨⟨1, Or.inr (Or.inl ⟨rfl, by first | rfl | simp⟩), ?_, hBaH.out⟩, ?_⟩
              · rw [← hRes.out]
              · simp [intOf]
            · clear hi
              refine Tkc.opC (i := 6) rfl (by rfl) (fun K hK => ?_)
              go_simp
              refine (hde _).mono ?_
              rintro e w6 ⟨rfl, hw6⟩
              have hw7 := hw6.symm
              subst hw7
              refine hK _ _ ?_
              clear hK K
              try go_frame
              refine Tkc.onlyC (i := 4) rfl (by kernel_rfl) (fun _ => trivial) (by rfl) (fun K hK => ?_)
              go_simp
              refine hK _ _ ?_
              clear hK K
              try go_frame
              refine Tkc.onlyC (i := 7) rfl (by kernel_rfl) (fun _ => trivial) (by rfl) (fun K hK => ?_)
              go_simp
              refine hK _ _ ?_
              clear hK K
              try go_frame
              try go_frame
              refine Tkc.onlyC (i := 8) rfl (by kernel_rfl) (fun _ => trivial) (by rfl) (fun K hK => ?_)
              go_simp
              refine hK _ _ ?_
              clear hK K
              try go_frame
              refine Tkc.onlyC (i := 9) rfl (by kernel_rfl) (fun _ => trivial) (by rfl) (fun K hK => ?_)
              go_simp
              refine hK _ _ ?_
              clear hK K
              try go_frame
              refine Tkc.doneC (by kernel_rfl) (fun _ => trivial) ?_
              go_wp2
              refine ⟨⟨1, Or.inr (Or.inl ⟨rfl, by first | rfl | simp⟩), ?_, hBaH.out⟩, ?_⟩
              · rw [← hRes.out]
              · simp [intOf]
          · clear hi
            refine Tkc.opC (i := 6) rfl (by rfl) (fun K hK => ?_)
            go_simp
            refine (hde _).mono ?_
            rintro e w6 ⟨rfl, hw6⟩
            have hw7 := hw6.symm
            subst hw7
            refine hK _ _ ?_
            clear hK K
            try go_frame
            refine Tkc.onlyC (i := 1) rfl (by kernel_rfl) (fun _ => trivial) (by rfl) (fun K hK => ?_)
            go_simp
            refine hK _ _ ?_
            clear hK K
            try go_frame
            have hnw := cells_new wd [.string ⟨#[99, 112, 117, 61]⟩, .string ⟨#[109, 101, 109, 61]⟩, .string ⟨#[103, 112, 117, 61]⟩] 9 0 _ rfl
            rw [Addr.add_lit, Nat.zero_add] at hnw
            have hBa : Below w3.heap.size w3 (wd.alloc (.cells #[.string ⟨#[99, 112, 117, 61]⟩, .string ⟨#[109, 101, 109, 61]⟩, .string ⟨#[103, 112, 117, 61]⟩] 9)) := hBd.out.alloc hBd.out.size _
            have hBaH : Hid (Below w3.heap.size w3 (wd.alloc (.cells #[.string ⟨#[99, 112, 117, 61]⟩, .string ⟨#[109, 101, 109, 61]⟩, .string ⟨#[103, 112, 117, 61]⟩] 9))) := hBa
            clear hBa
            have hnw : (wd.alloc (.cells #[.string ⟨#[99, 112, 117, 61]⟩, .string ⟨#[109, 101, 109, 61]⟩, .string ⟨#[103, 112, 117, 61]⟩] 9)).cell? ⟨wd.heap.size, 0, none⟩ = some (.string ⟨#[99, 112, 117, 61]⟩) := hnw
            generalize wd.alloc (.cells #[.string ⟨#[99, 112, 117, 61]⟩, .string ⟨#[109, 101, 109, 61]⟩, .string ⟨#[103, 112, 117, 61]⟩] 9) = we at *
            refine Tkc.takeC (i := 3) (v := .pointer (some ⟨wd.heap.size, 0, none⟩)) rfl (by kernel_rfl) (by kernel_rfl) (by kernel_rfl) (fun _ _ _ h => h) (by decide) (by kernel_rfl) (by kernel_rfl) trivial ⟨by rfl, fun w hw => by go_simp⟩ ?_
            try go_frame
            refine Tkc.onlyC (i := 4) rfl (by kernel_rfl) (fun _ => trivial) (by rfl) (fun K hK => ?_)
            go_simp
            refine hK _ _ ?_
            clear hK K
            try go_frame
            refine Tkc.onlyC (i := 7) rfl (by kernel_rfl) (fun _ => trivial) (by rfl) (fun K hK => ?_)
            go_simp
            refine hK _ _ ?_
            clear hK K
            try go_frame
            try go_frame
            refine Tkc.onlyC (i := 8) rfl (by kernel_rfl) (fun _ => trivial) (by rfl) (fun K hK => ?_)
            go_simp
            refine hK _ _ ?_
            clear hK K
            try go_frame
            refine Tkc.onlyC (i := 9) rfl (by kernel_rfl) (fun _ => trivial) (by rfl) (fun K hK => ?_)
            go_simp
            refine hK _ _ ?_
            clear hK K
            try go_frame
            refine Tkc.doneC (by kernel_rfl) (fun _ => trivial) ?_
            go_wp2
            refine ⟨⟨1, Or.inr (Or.inl ⟨rfl, by first | rfl | simp⟩), ?_, hBaH.out⟩, ?_⟩
            · rw [← hRes.out]
            · simp [intOf]
    · by_cases hx : a.y = 0
      · have hxx : (a.y == 0) = true := by simpa using hx
        have hL : Hid (jn a 2 = jn a 1) := by
          show _ = _
          simp [jn, itL, it1, hx]
        clear hx
        generalize jn a 1 = js at *
        go_wp2
        refine ⟨⟨2, Or.inr (Or.inr (Or.inl ⟨rfl, by first | rfl | simp⟩)), by rw [hL.out], hblH.out⟩, ?_⟩
        simp [intOf]
      · have hxx : (a.y == 0) = false := by simpa using hx
        have hL : itL a 2 = itL a 1 ++ [itN 1 a.y] := by
          simp [itL, it1, hx]
        obtain ⟨⟨x1, x2⟩, ⟨x3, x4⟩, x5, x6⟩ := haH.out
        have n0 : 0 ≤ a.y := by assumption
        have n1 : a.y ≤ 9223372036854775807 := by assumption
        obtain ⟨v, hv⟩ := Int.eq_ofNat_of_zero_le n0
        have hde := fun w1 => Decimal_pos v w1 (by omega)
        rw [show ((v : Nat) : Int) = a.y from hv.symm] at hde
        have hit : Lib.itoa a.y = Lib.decDigits v := by
          unfold Lib.itoa
          rw [if_neg (by omega), hv]
          rfl
        have hdl := dec_len (u := v) (by omega)
        have hjl := jn_len haH.out 1
        have hIt : itN 1 a.y = [109, 101, 109, 61] ++ Lib.decDigits v := by
          show nmB 1 ++ ([61] ++ Lib.itoa a.y) = _
          rw [hit]
          rfl
        rw [hIt] at hL
        generalize Lib.decDigits v = d at *
        clear hv hit hIt n0 n1 x1 x2 x3 x4 x5 x6 hx
        by_cases he : itL a 1 = []
        · have hj : jn a 1 = [] := by unfold jn; rw [he]; rfl
          obtain ⟨sj, hsj⟩ : ∃ sj : ByteArray, sj = ⟨#[]⟩ := ⟨_, rfl⟩
          have hRes : Hid (sj ++ (⟨#[109, 101, 109, 61]⟩ ++ ⟨d.toArray⟩) = ⟨(jn a 2).toArray⟩) := by
            show _ = _
            unfold jn
            rw [hL, he, hsj, List.nil_append, Lib.join_one, show (#[] : Array UInt8) = ([] : List UInt8).toArray from rfl, show (#[109, 101, 109, 61] : Array UInt8) = ([109, 101, 109, 61] : List UInt8).toArray from rfl, ByteArray.mk_append_mk, ByteArray.mk_append_mk]
            rfl
          have hss : sj.size ≤ 80 := by rw [hsj]; decide
          have hnl : ¬ (9223372036854775807 < 4 + d.length) := by omega
          have hnl2 : ¬ (9223372036854775807 < sj.size + (4 + d.length)) := by omega
          rw [hj, show (⟨([] : List UInt8).toArray⟩ : ByteArray) = sj from hsj.symm]
          have hse : sj.toList.isEmpty = true := by rw [hsj, ByteArray.toList_eq]; rfl
          clear hj he hsj hL hjl
          go_wp2
          refine Tkc.region_anyC (C := fun _ => True) (s := 9) (by kernel_rfl) ?_
          have hBd : Hid (Below w3.heap.size w3 wr.drew) := hblH.out.drew
          generalize wr.drew = wd at *
          refine Tkc.takeC (i := 0) (v := .string sj) rfl (by kernel_rfl) (by kernel_rfl) (by kernel_rfl) (fun _ _ _ h => h) (by decide) (by kernel_rfl) (by kernel_rfl) trivial ⟨by rfl, fun w hw => by go_simp⟩ ?_
          try go_frame
          refine Tkc.takeC (i := 2) (v := .int .i64 1) rfl (by kernel_rfl) (by kernel_rfl) (by kernel_rfl) (fun _ _ _ h => h) (by decide) (by kernel_rfl) (by kernel_rfl) trivial ⟨by rfl, fun w hw => by go_simp⟩ ?_
          try go_frame
          refine Tkc.takeC (i := 5) (v := .int .i64 a.y) rfl (by kernel_rfl) (by kernel_rfl) (by kernel_rfl) (fun _ _ _ h => h) (by decide) (by kernel_rfl) (by kernel_rfl) trivial ⟨by rfl, fun w hw => by go_simp⟩ ?_
          try go_frame
          refine Tkc.manyC [1, 6] (by kernel_rfl) (by decide) (fun _ => trivial) ?_
          intro i hi
          rcases (show i = 1 ∨ i = 6 by simpa using hi) with rfl | rfl
          · clear hi
            refine Tkc.opC (i := 1) rfl (by rfl) (fun K hK => ?_)
            go_simp
            refine hK _ _ ?_
            clear hK K
            try go_frame
            have hnw := cells_new wd [.string ⟨#[99, 112, 117, 61]⟩, .string ⟨#[109, 101, 109, 61]⟩, .string ⟨#[103, 112, 117, 61]⟩] 9 1 _ rfl
            rw [Addr.add_lit, Nat.zero_add] at hnw
            have hBa : Below w3.heap.size w3 (wd.alloc (.cells #[.string ⟨#[99, 112, 117, 61]⟩, .string ⟨#[109, 101, 109, 61]⟩, .string ⟨#[103, 112, 117, 61]⟩] 9)) := hBd.out.alloc hBd.out.size _
            have hBaH : Hid (Below w3.heap.size w3 (wd.alloc (.cells #[.string ⟨#[99, 112, 117, 61]⟩, .string ⟨#[109, 101, 109, 61]⟩, .string ⟨#[103, 112, 117, 61]⟩] 9))) := hBa
            clear hBa
            have hnw : (wd.alloc (.cells #[.string ⟨#[99, 112, 117, 61]⟩, .string ⟨#[109, 101, 109, 61]⟩, .string ⟨#[103, 112, 117, 61]⟩] 9)).cell? ⟨wd.heap.size, 1, none⟩ = some (.string ⟨#[109, 101, 109, 61]⟩) := hnw
            generalize wd.alloc (.cells #[.string ⟨#[99, 112, 117, 61]⟩, .string ⟨#[109, 101, 109, 61]⟩, .string ⟨#[103, 112, 117, 61]⟩] 9) = we at *
            refine Tkc.takeC (i := 3) (v := .pointer (some ⟨wd.heap.size, 1, none⟩)) rfl (by kernel_rfl) (by kernel_rfl) (by kernel_rfl) (fun _ _ _ h => h) (by decide) (by kernel_rfl) (by kernel_rfl) trivial ⟨by rfl, fun w hw => by go_simp⟩ ?_
            try go_frame
            refine Tkc.manyC [4, 6] (by kernel_rfl) (by decide) (fun _ => trivial) ?_
            intro i hi
            rcases (show i = 4 ∨ i = 6 by simpa using hi) with rfl | rfl
            · clear hi
              refine Tkc.opC (i := 4) rfl (by rfl) (fun K hK => ?_)
              go_simp
              refine hK _ _ ?_
              clear hK K
              try go_frame
              refine Tkc.onlyC (i := 6) rfl (by kernel_rfl) (fun _ => trivial) (by rfl) (fun K hK => ?_)
              go_simp
              refine (hde _).mono ?_
              rintro e w6 ⟨rfl, hw6⟩
              have hw7 := hw6.symm
              subst hw7
              refine hK _ _ ?_
              clear hK K
              try go_frame
              refine Tkc.onlyC (i := 7) rfl (by kernel_rfl) (fun _ => trivial) (by rfl) (fun K hK => ?_)
              go_simp
              refine hK _ _ ?_
              clear hK K
              try go_frame
              try go_frame
              refine Tkc.onlyC (i := 8) rfl (by kernel_rfl) (fun _ => trivial) (by rfl) (fun K hK => ?_)
              go_simp
              refine hK _ _ ?_
              clear hK K
              try go_frame
              refine Tkc.onlyC (i := 9) rfl (by kernel_rfl) (fun _ => trivial) (by rfl) (fun K hK => ?_)
              go_simp
              refine hK _ _ ?_
              clear hK K
              try go_frame
              refine Tkc.doneC (by kernel_rfl) (fun _ => trivial) ?_
              go_wp2
              refine ⟨⟨2, Or.inr (Or.inr (Or.inl ⟨rfl, by first | rfl | simp⟩)), ?_, hBaH.out⟩, ?_⟩
              · rw [← hRes.out]
              · simp [intOf]
            · clear hi
              refine Tkc.opC (i := 6) rfl (by rfl) (fun K hK => ?_)
              go_simp
              refine (hde _).mono ?_
              rintro e w6 ⟨rfl, hw6⟩
              have hw7 := hw6.symm
              subst hw7
              refine hK _ _ ?_
              clear hK K
              try go_frame
              refine Tkc.onlyC (i := 4) rfl (by kernel_rfl) (fun _ => trivial) (by rfl) (fun K hK => ?_)
              go_simp
              refine hK _ _ ?_
              clear hK K
              try go_frame
              refine Tkc.onlyC (i := 7) rfl (by kernel_rfl) (fun _ => trivial) (by rfl) (fun K hK => ?_)
              go_simp
              refine hK _ _ ?_
              clear hK K
              try go_frame
              try go_frame
              refine Tkc.onlyC (i := 8) rfl (by kernel_rfl) (fun _ => trivial) (by rfl) (fun K hK => ?_)
              go_simp
              refine hK _ _ ?_
              clear hK K
              try go_frame
              refine Tkc.onlyC (i := 9) rfl (by kernel_rfl) (fun _ => trivial) (by rfl) (fun K hK => ?_)
              go_simp
              refine hK _ _ ?_
              clear hK K
              try go_frame
              refine Tkc.doneC (by kernel_rfl) (fun _ => trivial) ?_
              go_wp2
              refine ⟨⟨2, Or.inr (Or.inr (Or.inl ⟨rfl, by first | rfl | simp⟩)), ?_, hBaH.out⟩, ?_⟩
              · rw [← hRes.out]
              · simp [intOf]
          · clear hi
            refine Tkc.opC (i := 6) rfl (by rfl) (fun K hK => ?_)
            go_simp
            refine (hde _).mono ?_
            rintro e w6 ⟨rfl, hw6⟩
            have hw7 := hw6.symm
            subst hw7
            refine hK _ _ ?_
            clear hK K
            try go_frame
            refine Tkc.onlyC (i := 1) rfl (by kernel_rfl) (fun _ => trivial) (by rfl) (fun K hK => ?_)
            go_simp
            refine hK _ _ ?_
            clear hK K
            try go_frame
            have hnw := cells_new wd [.string ⟨#[99, 112, 117, 61]⟩, .string ⟨#[109, 101, 109, 61]⟩, .string ⟨#[103, 112, 117, 61]⟩] 9 1 _ rfl
            rw [Addr.add_lit, Nat.zero_add] at hnw
            have hBa : Below w3.heap.size w3 (wd.alloc (.cells #[.string ⟨#[99, 112, 117, 61]⟩, .string ⟨#[109, 101, 109, 61]⟩, .string ⟨#[103, 112, 117, 61]⟩] 9)) := hBd.out.alloc hBd.out.size _
            have hBaH : Hid (Below w3.heap.size w3 (wd.alloc (.cells #[.string ⟨#[99, 112, 117, 61]⟩, .string ⟨#[109, 101, 109, 61]⟩, .string ⟨#[103, 112, 117, 61]⟩] 9))) := hBa
            clear hBa
            have hnw : (wd.alloc (.cells #[.string ⟨#[99, 112, 117, 61]⟩, .string ⟨#[109, 101, 109, 61]⟩, .string ⟨#[103, 112, 117, 61]⟩] 9)).cell? ⟨wd.heap.size, 1, none⟩ = some (.string ⟨#[109, 101, 109, 61]⟩) := hnw
            generalize wd.alloc (.cells #[.string ⟨#[99, 112, 117, 61]⟩, .string ⟨#[109, 101, 109, 61]⟩, .string ⟨#[103, 112, 117, 61]⟩] 9) = we at *
            refine Tkc.takeC (i := 3) (v := .pointer (some ⟨wd.heap.size, 1, none⟩)) rfl (by kernel_rfl) (by kernel_rfl) (by kernel_rfl) (fun _ _ _ h => h) (by decide) (by kernel_rfl) (by kernel_rfl) trivial ⟨by rfl, fun w hw => by go_simp⟩ ?_
            try go_frame
            refine Tkc.onlyC (i := 4) rfl (by kernel_rfl) (fun _ => trivial) (by rfl) (fun K hK => ?_)
            go_simp
            refine hK _ _ ?_
            clear hK K
            try go_frame
            refine Tkc.onlyC (i := 7) rfl (by kernel_rfl) (fun _ => trivial) (by rfl) (fun K hK => ?_)
            go_simp
            refine hK _ _ ?_
            clear hK K
            try go_frame
            try go_frame
            refine Tkc.onlyC (i := 8) rfl (by kernel_rfl) (fun _ => trivial) (by rfl) (fun K hK => ?_)
            go_simp
            refine hK _ _ ?_
            clear hK K
            try go_frame
            refine Tkc.onlyC (i := 9) rfl (by kernel_rfl) (fun _ => trivial) (by rfl) (fun K hK => ?_)
            go_simp
            refine hK _ _ ?_
            clear hK K
            try go_frame
            refine Tkc.doneC (by kernel_rfl) (fun _ => trivial) ?_
            go_wp2
            refine ⟨⟨2, Or.inr (Or.inr (Or.inl ⟨rfl, by first | rfl | simp⟩)), ?_, hBaH.out⟩, ?_⟩
            · rw [← hRes.out]
            · simp [intOf]
        · have hnlE := jn_pos he
          obtain ⟨sj, hsj⟩ : ∃ sj : ByteArray, sj = ⟨(jn a 1).toArray⟩ ++ ⟨#[44]⟩ := ⟨_, rfl⟩
          have hRes : Hid (sj ++ (⟨#[109, 101, 109, 61]⟩ ++ ⟨d.toArray⟩) = ⟨(jn a 2).toArray⟩) := by
            show _ = _
            rw [hsj]
            unfold jn
            rw [hL, join_snoc _ _ he, show (#[44] : Array UInt8) = ([44] : List UInt8).toArray from rfl, show (#[109, 101, 109, 61] : Array UInt8) = ([109, 101, 109, 61] : List UInt8).toArray from rfl, ByteArray.mk_append_mk, ByteArray.mk_append_mk, ByteArray.mk_append_mk]
            simp
          have hss : sj.size ≤ 80 := by rw [hsj, ByteArray.size_append, mk_size]; have : (ByteArray.mk #[44]).size = 1 := rfl; omega
          have hnl : ¬ (9223372036854775807 < 4 + d.length) := by omega
          have hnl2 : ¬ (9223372036854775807 < sj.size + (4 + d.length)) := by omega
          have HSJ : Hid (sj = ⟨(jn a 1).toArray⟩ ++ ⟨#[44]⟩) := hsj
          clear he hsj hL
          generalize jn a 1 = js at *
          go_wp2
          rw [← HSJ.out]
          refine Tkc.region_anyC (C := fun _ => True) (s := 9) (by kernel_rfl) ?_
          have hBd : Hid (Below w3.heap.size w3 wr.drew) := hblH.out.drew
          generalize wr.drew = wd at *
          refine Tkc.takeC (i := 0) (v := .string sj) rfl (by kernel_rfl) (by kernel_rfl) (by kernel_rfl) (fun _ _ _ h => h) (by decide) (by kernel_rfl) (by kernel_rfl) trivial ⟨by rfl, fun w hw => by go_simp⟩ ?_
          try go_frame
          refine Tkc.takeC (i := 2) (v := .int .i64 1) rfl (by kernel_rfl) (by kernel_rfl) (by kernel_rfl) (fun _ _ _ h => h) (by decide) (by kernel_rfl) (by kernel_rfl) trivial ⟨by rfl, fun w hw => by go_simp⟩ ?_
          try go_frame
          refine Tkc.takeC (i := 5) (v := .int .i64 a.y) rfl (by kernel_rfl) (by kernel_rfl) (by kernel_rfl) (fun _ _ _ h => h) (by decide) (by kernel_rfl) (by kernel_rfl) trivial ⟨by rfl, fun w hw => by go_simp⟩ ?_
          try go_frame
          refine Tkc.manyC [1, 6] (by kernel_rfl) (by decide) (fun _ => trivial) ?_
          intro i hi
          rcases (show i = 1 ∨ i = 6 by simpa using hi) with rfl | rfl
          · clear hi
            refine Tkc.opC (i := 1) rfl (by rfl) (fun K hK => ?_)
            go_simp
            refine hK _ _ ?_
            clear hK K
            try go_frame
            have hnw := cells_new wd [.string ⟨#[99, 112, 117, 61]⟩, .string ⟨#[109, 101, 109, 61]⟩, .string ⟨#[103, 112, 117, 61]⟩] 9 1 _ rfl
            rw [Addr.add_lit, Nat.zero_add] at hnw
            have hBa : Below w3.heap.size w3 (wd.alloc (.cells #[.string ⟨#[99, 112, 117, 61]⟩, .string ⟨#[109, 101, 109, 61]⟩, .string ⟨#[103, 112, 117, 61]⟩] 9)) := hBd.out.alloc hBd.out.size _
            have hBaH : Hid (Below w3.heap.size w3 (wd.alloc (.cells #[.string ⟨#[99, 112, 117, 61]⟩, .string ⟨#[109, 101, 109, 61]⟩, .string ⟨#[103, 112, 117, 61]⟩] 9))) := hBa
            clear hBa
            have hnw : (wd.alloc (.cells #[.string ⟨#[99, 112, 117, 61]⟩, .string ⟨#[109, 101, 109, 61]⟩, .string ⟨#[103, 112, 117, 61]⟩] 9)).cell? ⟨wd.heap.size, 1, none⟩ = some (.string ⟨#[109, 101, 109, 61]⟩) := hnw
            generalize wd.alloc (.cells #[.string ⟨#[99, 112, 117, 61]⟩, .string ⟨#[109, 101, 109, 61]⟩, .string ⟨#[103, 112, 117, 61]⟩] 9) = we at *
            refine Tkc.takeC (i := 3) (v := .pointer (some ⟨wd.heap.size, 1, none⟩)) rfl (by kernel_rfl) (by kernel_rfl) (by kernel_rfl) (fun _ _ _ h => h) (by decide) (by kernel_rfl) (by kernel_rfl) trivial ⟨by rfl, fun w hw => by go_simp⟩ ?_
            try go_frame
            refine Tkc.manyC [4, 6] (by kernel_rfl) (by decide) (fun _ => trivial) ?_
            intro i hi
            rcases (show i = 4 ∨ i = 6 by simpa using hi) with rfl | rfl
            · clear hi
              refine Tkc.opC (i := 4) rfl (by rfl) (fun K hK => ?_)
              go_simp
              refine hK _ _ ?_
              clear hK K
              try go_frame
              refine Tkc.onlyC (i := 6) rfl (by kernel_rfl) (fun _ => trivial) (by rfl) (fun K hK => ?_)
              go_simp
              refine (hde _).mono ?_
              rintro e w6 ⟨rfl, hw6⟩
              have hw7 := hw6.symm
              subst hw7
              refine hK _ _ ?_
              clear hK K
              try go_frame
              refine Tkc.onlyC (i := 7) rfl (by kernel_rfl) (fun _ => trivial) (by rfl) (fun K hK => ?_)
              go_simp
              refine hK _ _ ?_
              clear hK K
              try go_frame
              try go_frame
              refine Tkc.onlyC (i := 8) rfl (by kernel_rfl) (fun _ => trivial) (by rfl) (fun K hK => ?_)
              go_simp
              refine hK _ _ ?_
              clear hK K
              try go_frame
              refine Tkc.onlyC (i := 9) rfl (by kernel_rfl) (fun _ => trivial) (by rfl) (fun K hK => ?_)
              go_simp
              refine hK _ _ ?_
              clear hK K
              try go_frame
              refine Tkc.doneC (by kernel_rfl) (fun _ => trivial) ?_
              go_wp2
              refine ⟨⟨2, Or.inr (Or.inr (Or.inl ⟨rfl, by first | rfl | simp⟩)), ?_, hBaH.out⟩, ?_⟩
              · rw [← hRes.out]
              · simp [intOf]
            · clear hi
              refine Tkc.opC (i := 6) rfl (by rfl) (fun K hK => ?_)
              go_simp
              refine (hde _).mono ?_
              rintro e w6 ⟨rfl, hw6⟩
              have hw7 := hw6.symm
              subst hw7
              refine hK _ _ ?_
              clear hK K
              try go_frame
              refine Tkc.onlyC (i := 4) rfl (by kernel_rfl) (fun _ => trivial) (by rfl) (fun K hK => ?_)
              go_simp
              refine hK _ _ ?_
              clear hK K
              try go_frame
              refine Tkc.onlyC (i := 7) rfl (by kernel_rfl) (fun _ => trivial) (by rfl) (fun K hK => ?_)
              go_simp
              refine hK _ _ ?_
              clear hK K
              try go_frame
              try go_frame
              refine Tkc.onlyC (i := 8) rfl (by kernel_rfl) (fun _ => trivial) (by rfl) (fun K hK => ?_)
              go_simp
              refine hK _ _ ?_
              clear hK K
              try go_frame
              refine Tkc.onlyC (i := 9) rfl (by kernel_rfl) (fun _ => trivial) (by rfl) (fun K hK => ?_)
              go_simp
              refine hK _ _ ?_
              clear hK K
              try go_frame
              refine Tkc.doneC (by kernel_rfl) (fun _ => trivial) ?_
              go_wp2
              refine ⟨⟨2, Or.inr (Or.inr (Or.inl ⟨rfl, by first | rfl | simp⟩)), ?_, hBaH.out⟩, ?_⟩
              · rw [← hRes.out]
              · simp [intOf]
          · clear hi
            refine Tkc.opC (i := 6) rfl (by rfl) (fun K hK => ?_)
            go_simp
            refine (hde _).mono ?_
            rintro e w6 ⟨rfl, hw6⟩
            have hw7 := hw6.symm
            subst hw7
            refine hK _ _ ?_
            clear hK K
            try go_frame
            refine Tkc.onlyC (i := 1) rfl (by kernel_rfl) (fun _ => trivial) (by rfl) (fun K hK => ?_)
            go_simp
            refine hK _ _ ?_
            clear hK K
            try go_frame
            have hnw := cells_new wd [.string ⟨#[99, 112, 117, 61]⟩, .string ⟨#[109, 101, 109, 61]⟩, .string ⟨#[103, 112, 117, 61]⟩] 9 1 _ rfl
            rw [Addr.add_lit, Nat.zero_add] at hnw
            have hBa : Below w3.heap.size w3 (wd.alloc (.cells #[.string ⟨#[99, 112, 117, 61]⟩, .string ⟨#[109, 101, 109, 61]⟩, .string ⟨#[103, 112, 117, 61]⟩] 9)) := hBd.out.alloc hBd.out.size _
            have hBaH : Hid (Below w3.heap.size w3 (wd.alloc (.cells #[.string ⟨#[99, 112, 117, 61]⟩, .string ⟨#[109, 101, 109, 61]⟩, .string ⟨#[103, 112, 117, 61]⟩] 9))) := hBa
            clear hBa
            have hnw : (wd.alloc (.cells #[.string ⟨#[99, 112, 117, 61]⟩, .string ⟨#[109, 101, 109, 61]⟩, .string ⟨#[103, 112, 117, 61]⟩] 9)).cell? ⟨wd.heap.size, 1, none⟩ = some (.string ⟨#[109, 101, 109, 61]⟩) := hnw
            generalize wd.alloc (.cells #[.string ⟨#[99, 112, 117, 61]⟩, .string ⟨#[109, 101, 109, 61]⟩, .string ⟨#[103, 112, 117, 61]⟩] 9) = we at *
            refine Tkc.takeC (i := 3) (v := .pointer (some ⟨wd.heap.size, 1, none⟩)) rfl (by kernel_rfl) (by kernel_rfl) (by kernel_rfl) (fun _ _ _ h => h) (by decide) (by kernel_rfl) (by kernel_rfl) trivial ⟨by rfl, fun w hw => by go_simp⟩ ?_
            try go_frame
            refine Tkc.onlyC (i := 4) rfl (by kernel_rfl) (fun _ => trivial) (by rfl) (fun K hK => ?_)
            go_simp
            refine hK _ _ ?_
            clear hK K
            try go_frame
            refine Tkc.onlyC (i := 7) rfl (by kernel_rfl) (fun _ => trivial) (by rfl) (fun K hK => ?_)
            go_simp
            refine hK _ _ ?_
            clear hK K
            try go_frame
            try go_frame
            refine Tkc.onlyC (i := 8) rfl (by kernel_rfl) (fun _ => trivial) (by rfl) (fun K hK => ?_)
            go_simp
            refine hK _ _ ?_
            clear hK K
            try go_frame
            refine Tkc.onlyC (i := 9) rfl (by kernel_rfl) (fun _ => trivial) (by rfl) (fun K hK => ?_)
            go_simp
            refine hK _ _ ?_
            clear hK K
            try go_frame
            refine Tkc.doneC (by kernel_rfl) (fun _ => trivial) ?_
            go_wp2
            refine ⟨⟨2, Or.inr (Or.inr (Or.inl ⟨rfl, by first | rfl | simp⟩)), ?_, hBaH.out⟩, ?_⟩
            · rw [← hRes.out]
            · simp [intOf]
    · by_cases hx : a.z = 0
      · have hxx : (a.z == 0) = true := by simpa using hx
        have hL : Hid (jn a 3 = jn a 2) := by
          show _ = _
          simp [jn, itL, it1, hx]
        clear hx
        generalize jn a 2 = js at *
        go_wp2
        refine ⟨⟨3, Or.inr (Or.inr (Or.inr ⟨rfl, by first | rfl | simp⟩)), by rw [hL.out], hblH.out⟩, ?_⟩
        simp [intOf]
      · have hxx : (a.z == 0) = false := by simpa using hx
        have hL : itL a 3 = itL a 2 ++ [itN 2 a.z] := by
          simp [itL, it1, hx]
        obtain ⟨⟨x1, x2⟩, ⟨x3, x4⟩, x5, x6⟩ := haH.out
        have n0 : 0 ≤ a.z := by assumption
        have n1 : a.z ≤ 9223372036854775807 := by assumption
        obtain ⟨v, hv⟩ := Int.eq_ofNat_of_zero_le n0
        have hde := fun w1 => Decimal_pos v w1 (by omega)
        rw [show ((v : Nat) : Int) = a.z from hv.symm] at hde
        have hit : Lib.itoa a.z = Lib.decDigits v := by
          unfold Lib.itoa
          rw [if_neg (by omega), hv]
          rfl
        have hdl := dec_len (u := v) (by omega)
        have hjl := jn_len haH.out 2
        have hIt : itN 2 a.z = [103, 112, 117, 61] ++ Lib.decDigits v := by
          show nmB 2 ++ ([61] ++ Lib.itoa a.z) = _
          rw [hit]
          rfl
        rw [hIt] at hL
        generalize Lib.decDigits v = d at *
        clear hv hit hIt n0 n1 x1 x2 x3 x4 x5 x6 hx
        by_cases he : itL a 2 = []
        · have hj : jn a 2 = [] := by unfold jn; rw [he]; rfl
          obtain ⟨sj, hsj⟩ : ∃ sj : ByteArray, sj = ⟨#[]⟩ := ⟨_, rfl⟩
          have hRes : Hid (sj ++ (⟨#[103, 112, 117, 61]⟩ ++ ⟨d.toArray⟩) = ⟨(jn a 3).toArray⟩) := by
            show _ = _
            unfold jn
            rw [hL, he, hsj, List.nil_append, Lib.join_one, show (#[] : Array UInt8) = ([] : List UInt8).toArray from rfl, show (#[103, 112, 117, 61] : Array UInt8) = ([103, 112, 117, 61] : List UInt8).toArray from rfl, ByteArray.mk_append_mk, ByteArray.mk_append_mk]
            rfl
          have hss : sj.size ≤ 80 := by rw [hsj]; decide
          have hnl : ¬ (9223372036854775807 < 4 + d.length) := by omega
          have hnl2 : ¬ (9223372036854775807 < sj.size + (4 + d.length)) := by omega
          rw [hj, show (⟨([] : List UInt8).toArray⟩ : ByteArray) = sj from hsj.symm]
          have hse : sj.toList.isEmpty = true := by rw [hsj, ByteArray.toList_eq]; rfl
          clear hj he hsj hL hjl
          go_wp2
          refine Tkc.region_anyC (C := fun _ => True) (s := 9) (by kernel_rfl) ?_
          have hBd : Hid (Below w3.heap.size w3 wr.drew) := hblH.out.drew
          generalize wr.drew = wd at *
          refine Tkc.takeC (i := 0) (v := .string sj) rfl (by kernel_rfl) (by kernel_rfl) (by kernel_rfl) (fun _ _ _ h => h) (by decide) (by kernel_rfl) (by kernel_rfl) trivial ⟨by rfl, fun w hw => by go_simp⟩ ?_
          try go_frame
          refine Tkc.takeC (i := 2) (v := .int .i64 2) rfl (by kernel_rfl) (by kernel_rfl) (by kernel_rfl) (fun _ _ _ h => h) (by decide) (by kernel_rfl) (by kernel_rfl) trivial ⟨by rfl, fun w hw => by go_simp⟩ ?_
          try go_frame
          refine Tkc.takeC (i := 5) (v := .int .i64 a.z) rfl (by kernel_rfl) (by kernel_rfl) (by kernel_rfl) (fun _ _ _ h => h) (by decide) (by kernel_rfl) (by kernel_rfl) trivial ⟨by rfl, fun w hw => by go_simp⟩ ?_
          try go_frame
          refine Tkc.manyC [1, 6] (by kernel_rfl) (by decide) (fun _ => trivial) ?_
          intro i hi
          rcases (show i = 1 ∨ i = 6 by simpa using hi) with rfl | rfl
          · clear hi
            refine Tkc.opC (i := 1) rfl (by rfl) (fun K hK => ?_)
            go_simp
            refine hK _ _ ?_
            clear hK K
            try go_frame
            have hnw := cells_new wd [.string ⟨#[99, 112, 117, 61]⟩, .string ⟨#[109, 101, 109, 61]⟩, .string ⟨#[103, 112, 117, 61]⟩] 9 2 _ rfl
            rw [Addr.add_lit, Nat.zero_add] at hnw
            have hBa : Below w3.heap.size w3 (wd.alloc (.cells #[.string ⟨#[99, 112, 117, 61]⟩, .string ⟨#[109, 101, 109, 61]⟩, .string ⟨#[103, 112, 117, 61]⟩] 9)) := hBd.out.alloc hBd.out.size _
            have hBaH : Hid (Below w3.heap.size w3 (wd.alloc (.cells #[.string ⟨#[99, 112, 117, 61]⟩, .string ⟨#[109, 101, 109, 61]⟩, .string ⟨#[103, 112, 117, 61]⟩] 9))) := hBa
            clear hBa
            have hnw : (wd.alloc (.cells #[.string ⟨#[99, 112, 117, 61]⟩, .string ⟨#[109, 101, 109, 61]⟩, .string ⟨#[103, 112, 117, 61]⟩] 9)).cell? ⟨wd.heap.size, 2, none⟩ = some (.string ⟨#[103, 112, 117, 61]⟩) := hnw
            generalize wd.alloc (.cells #[.string ⟨#[99, 112, 117, 61]⟩, .string ⟨#[109, 101, 109, 61]⟩, .string ⟨#[103, 112, 117, 61]⟩] 9) = we at *
            refine Tkc.takeC (i := 3) (v := .pointer (some ⟨wd.heap.size, 2, none⟩)) rfl (by kernel_rfl) (by kernel_rfl) (by kernel_rfl) (fun _ _ _ h => h) (by decide) (by kernel_rfl) (by kernel_rfl) trivial ⟨by rfl, fun w hw => by go_simp⟩ ?_
            try go_frame
            refine Tkc.manyC [4, 6] (by kernel_rfl) (by decide) (fun _ => trivial) ?_
            intro i hi
            rcases (show i = 4 ∨ i = 6 by simpa using hi) with rfl | rfl
            · clear hi
              refine Tkc.opC (i := 4) rfl (by rfl) (fun K hK => ?_)
              go_simp
              refine hK _ _ ?_
              clear hK K
              try go_frame
              refine Tkc.onlyC (i := 6) rfl (by kernel_rfl) (fun _ => trivial) (by rfl) (fun K hK => ?_)
              go_simp
              refine (hde _).mono ?_
              rintro e w6 ⟨rfl, hw6⟩
              have hw7 := hw6.symm
              subst hw7
              refine hK _ _ ?_
              clear hK K
              try go_frame
              refine Tkc.onlyC (i := 7) rfl (by kernel_rfl) (fun _ => trivial) (by rfl) (fun K hK => ?_)
              go_simp
              refine hK _ _ ?_
              clear hK K
              try go_frame
              try go_frame
              refine Tkc.onlyC (i := 8) rfl (by kernel_rfl) (fun _ => trivial) (by rfl) (fun K hK => ?_)
              go_simp
              refine hK _ _ ?_
              clear hK K
              try go_frame
              refine Tkc.onlyC (i := 9) rfl (by kernel_rfl) (fun _ => trivial) (by rfl) (fun K hK => ?_)
              go_simp
              refine hK _ _ ?_
              clear hK K
              try go_frame
              refine Tkc.doneC (by kernel_rfl) (fun _ => trivial) ?_
              go_wp2
              refine ⟨⟨3, Or.inr (Or.inr (Or.inr ⟨rfl, by first | rfl | simp⟩)), ?_, hBaH.out⟩, ?_⟩
              · rw [← hRes.out]
              · simp [intOf]
            · clear hi
              refine Tkc.opC (i := 6) rfl (by rfl) (fun K hK => ?_)
              go_simp
              refine (hde _).mono ?_
              rintro e w6 ⟨rfl, hw6⟩
              have hw7 := hw6.symm
              subst hw7
              refine hK _ _ ?_
              clear hK K
              try go_frame
              refine Tkc.onlyC (i := 4) rfl (by kernel_rfl) (fun _ => trivial) (by rfl) (fun K hK => ?_)
              go_simp
              refine hK _ _ ?_
              clear hK K
              try go_frame
              refine Tkc.onlyC (i := 7) rfl (by kernel_rfl) (fun _ => trivial) (by rfl) (fun K hK => ?_)
              go_simp
              refine hK _ _ ?_
              clear hK K
              try go_frame
              try go_frame
              refine Tkc.onlyC (i := 8) rfl (by kernel_rfl) (fun _ => trivial) (by rfl) (fun K hK => ?_)
              go_simp
              refine hK _ _ ?_
              clear hK K
              try go_frame
              refine Tkc.onlyC (i := 9) rfl (by kernel_rfl) (fun _ => trivial) (by rfl) (fun K hK => ?_)
              go_simp
              refine hK _ _ ?_
              clear hK K
              try go_frame
              refine Tkc.doneC (by kernel_rfl) (fun _ => trivial) ?_
              go_wp2
              refine ⟨⟨3, Or.inr (Or.inr (Or.inr ⟨rfl, by first | rfl | simp⟩)), ?_, hBaH.out⟩, ?_⟩
              · rw [← hRes.out]
              · simp [intOf]
          · clear hi
            refine Tkc.opC (i := 6) rfl (by rfl) (fun K hK => ?_)
            go_simp
            refine (hde _).mono ?_
            rintro e w6 ⟨rfl, hw6⟩
            have hw7 := hw6.symm
            subst hw7
            refine hK _ _ ?_
            clear hK K
            try go_frame
            refine Tkc.onlyC (i := 1) rfl (by kernel_rfl) (fun _ => trivial) (by rfl) (fun K hK => ?_)
            go_simp
            refine hK _ _ ?_
            clear hK K
            try go_frame
            have hnw := cells_new wd [.string ⟨#[99, 112, 117, 61]⟩, .string ⟨#[109, 101, 109, 61]⟩, .string ⟨#[103, 112, 117, 61]⟩] 9 2 _ rfl
            rw [Addr.add_lit, Nat.zero_add] at hnw
            have hBa : Below w3.heap.size w3 (wd.alloc (.cells #[.string ⟨#[99, 112, 117, 61]⟩, .string ⟨#[109, 101, 109, 61]⟩, .string ⟨#[103, 112, 117, 61]⟩] 9)) := hBd.out.alloc hBd.out.size _
            have hBaH : Hid (Below w3.heap.size w3 (wd.alloc (.cells #[.string ⟨#[99, 112, 117, 61]⟩, .string ⟨#[109, 101, 109, 61]⟩, .string ⟨#[103, 112, 117, 61]⟩] 9))) := hBa
            clear hBa
            have hnw : (wd.alloc (.cells #[.string ⟨#[99, 112, 117, 61]⟩, .string ⟨#[109, 101, 109, 61]⟩, .string ⟨#[103, 112, 117, 61]⟩] 9)).cell? ⟨wd.heap.size, 2, none⟩ = some (.string ⟨#[103, 112, 117, 61]⟩) := hnw
            generalize wd.alloc (.cells #[.string ⟨#[99, 112, 117, 61]⟩, .string ⟨#[109, 101, 109, 61]⟩, .string ⟨#[103, 112, 117, 61]⟩] 9) = we at *
            refine Tkc.takeC (i := 3) (v := .pointer (some ⟨wd.heap.size, 2, none⟩)) rfl (by kernel_rfl) (by kernel_rfl) (by kernel_rfl) (fun _ _ _ h => h) (by decide) (by kernel_rfl) (by kernel_rfl) trivial ⟨by rfl, fun w hw => by go_simp⟩ ?_
            try go_frame
            refine Tkc.onlyC (i := 4) rfl (by kernel_rfl) (fun _ => trivial) (by rfl) (fun K hK => ?_)
            go_simp
            refine hK _ _ ?_
            clear hK K
            try go_frame
            refine Tkc.onlyC (i := 7) rfl (by kernel_rfl) (fun _ => trivial) (by rfl) (fun K hK => ?_)
            go_simp
            refine hK _ _ ?_
            clear hK K
            try go_frame
            try go_frame
            refine Tkc.onlyC (i := 8) rfl (by kernel_rfl) (fun _ => trivial) (by rfl) (fun K hK => ?_)
            go_simp
            refine hK _ _ ?_
            clear hK K
            try go_frame
            refine Tkc.onlyC (i := 9) rfl (by kernel_rfl) (fun _ => trivial) (by rfl) (fun K hK => ?_)
            go_simp
            refine hK _ _ ?_
            clear hK K
            try go_frame
            refine Tkc.doneC (by kernel_rfl) (fun _ => trivial) ?_
            go_wp2
            refine ⟨⟨3, Or.inr (Or.inr (Or.inr ⟨rfl, by first | rfl | simp⟩)), ?_, hBaH.out⟩, ?_⟩
            · rw [← hRes.out]
            · simp [intOf]
        · have hnlE := jn_pos he
          obtain ⟨sj, hsj⟩ : ∃ sj : ByteArray, sj = ⟨(jn a 2).toArray⟩ ++ ⟨#[44]⟩ := ⟨_, rfl⟩
          have hRes : Hid (sj ++ (⟨#[103, 112, 117, 61]⟩ ++ ⟨d.toArray⟩) = ⟨(jn a 3).toArray⟩) := by
            show _ = _
            rw [hsj]
            unfold jn
            rw [hL, join_snoc _ _ he, show (#[44] : Array UInt8) = ([44] : List UInt8).toArray from rfl, show (#[103, 112, 117, 61] : Array UInt8) = ([103, 112, 117, 61] : List UInt8).toArray from rfl, ByteArray.mk_append_mk, ByteArray.mk_append_mk, ByteArray.mk_append_mk]
            simp
          have hss : sj.size ≤ 80 := by rw [hsj, ByteArray.size_append, mk_size]; have : (ByteArray.mk #[44]).size = 1 := rfl; omega
          have hnl : ¬ (9223372036854775807 < 4 + d.length) := by omega
          have hnl2 : ¬ (9223372036854775807 < sj.size + (4 + d.length)) := by omega
          have HSJ : Hid (sj = ⟨(jn a 2).toArray⟩ ++ ⟨#[44]⟩) := hsj
          clear he hsj hL
          generalize jn a 2 = js at *
          go_wp2
          rw [← HSJ.out]
          refine Tkc.region_anyC (C := fun _ => True) (s := 9) (by kernel_rfl) ?_
          have hBd : Hid (Below w3.heap.size w3 wr.drew) := hblH.out.drew
          generalize wr.drew = wd at *
          refine Tkc.takeC (i := 0) (v := .string sj) rfl (by kernel_rfl) (by kernel_rfl) (by kernel_rfl) (fun _ _ _ h => h) (by decide) (by kernel_rfl) (by kernel_rfl) trivial ⟨by rfl, fun w hw => by go_simp⟩ ?_
          try go_frame
          refine Tkc.takeC (i := 2) (v := .int .i64 2) rfl (by kernel_rfl) (by kernel_rfl) (by kernel_rfl) (fun _ _ _ h => h) (by decide) (by kernel_rfl) (by kernel_rfl) trivial ⟨by rfl, fun w hw => by go_simp⟩ ?_
          try go_frame
          refine Tkc.takeC (i := 5) (v := .int .i64 a.z) rfl (by kernel_rfl) (by kernel_rfl) (by kernel_rfl) (fun _ _ _ h => h) (by decide) (by kernel_rfl) (by kernel_rfl) trivial ⟨by rfl, fun w hw => by go_simp⟩ ?_
          try go_frame
          refine Tkc.manyC [1, 6] (by kernel_rfl) (by decide) (fun _ => trivial) ?_
          intro i hi
          rcases (show i = 1 ∨ i = 6 by simpa using hi) with rfl | rfl
          · clear hi
            refine Tkc.opC (i := 1) rfl (by rfl) (fun K hK => ?_)
            go_simp
            refine hK _ _ ?_
            clear hK K
            try go_frame
            have hnw := cells_new wd [.string ⟨#[99, 112, 117, 61]⟩, .string ⟨#[109, 101, 109, 61]⟩, .string ⟨#[103, 112, 117, 61]⟩] 9 2 _ rfl
            rw [Addr.add_lit, Nat.zero_add] at hnw
            have hBa : Below w3.heap.size w3 (wd.alloc (.cells #[.string ⟨#[99, 112, 117, 61]⟩, .string ⟨#[109, 101, 109, 61]⟩, .string ⟨#[103, 112, 117, 61]⟩] 9)) := hBd.out.alloc hBd.out.size _
            have hBaH : Hid (Below w3.heap.size w3 (wd.alloc (.cells #[.string ⟨#[99, 112, 117, 61]⟩, .string ⟨#[109, 101, 109, 61]⟩, .string ⟨#[103, 112, 117, 61]⟩] 9))) := hBa
            clear hBa
            have hnw : (wd.alloc (.cells #[.string ⟨#[99, 112, 117, 61]⟩, .string ⟨#[109, 101, 109, 61]⟩, .string ⟨#[103, 112, 117, 61]⟩] 9)).cell? ⟨wd.heap.size, 2, none⟩ = some (.string ⟨#[103, 112, 117, 61]⟩) := hnw
            generalize wd.alloc (.cells #[.string ⟨#[99, 112, 117, 61]⟩, .string ⟨#[109, 101, 109, 61]⟩, .string ⟨#[103, 112, 117, 61]⟩] 9) = we at *
            refine Tkc.takeC (i := 3) (v := .pointer (some ⟨wd.heap.size, 2, none⟩)) rfl (by kernel_rfl) (by kernel_rfl) (by kernel_rfl) (fun _ _ _ h => h) (by decide) (by kernel_rfl) (by kernel_rfl) trivial ⟨by rfl, fun w hw => by go_simp⟩ ?_
            try go_frame
            refine Tkc.manyC [4, 6] (by kernel_rfl) (by decide) (fun _ => trivial) ?_
            intro i hi
            rcases (show i = 4 ∨ i = 6 by simpa using hi) with rfl | rfl
            · clear hi
              refine Tkc.opC (i := 4) rfl (by rfl) (fun K hK => ?_)
              go_simp
              refine hK _ _ ?_
              clear hK K
              try go_frame
              refine Tkc.onlyC (i := 6) rfl (by kernel_rfl) (fun _ => trivial) (by rfl) (fun K hK => ?_)
              go_simp
              refine (hde _).mono ?_
              rintro e w6 ⟨rfl, hw6⟩
              have hw7 := hw6.symm
              subst hw7
              refine hK _ _ ?_
              clear hK K
              try go_frame
              refine Tkc.onlyC (i := 7) rfl (by kernel_rfl) (fun _ => trivial) (by rfl) (fun K hK => ?_)
              go_simp
              refine hK _ _ ?_
              clear hK K
              try go_frame
              try go_frame
              refine Tkc.onlyC (i := 8) rfl (by kernel_rfl) (fun _ => trivial) (by rfl) (fun K hK => ?_)
              go_simp
              refine hK _ _ ?_
              clear hK K
              try go_frame
              refine Tkc.onlyC (i := 9) rfl (by kernel_rfl) (fun _ => trivial) (by rfl) (fun K hK => ?_)
              go_simp
              refine hK _ _ ?_
              clear hK K
              try go_frame
              refine Tkc.doneC (by kernel_rfl) (fun _ => trivial) ?_
              go_wp2
              refine ⟨⟨3, Or.inr (Or.inr (Or.inr ⟨rfl, by first | rfl | simp⟩)), ?_, hBaH.out⟩, ?_⟩
              · rw [← hRes.out]
              · simp [intOf]
            · clear hi
              refine Tkc.opC (i := 6) rfl (by rfl) (fun K hK => ?_)
              go_simp
              refine (hde _).mono ?_
              rintro e w6 ⟨rfl, hw6⟩
              have hw7 := hw6.symm
              subst hw7
              refine hK _ _ ?_
              clear hK K
              try go_frame
              refine Tkc.onlyC (i := 4) rfl (by kernel_rfl) (fun _ => trivial) (by rfl) (fun K hK => ?_)
              go_simp
              refine hK _ _ ?_
              clear hK K
              try go_frame
              refine Tkc.onlyC (i := 7) rfl (by kernel_rfl) (fun _ => trivial) (by rfl) (fun K hK => ?_)
              go_simp
              refine hK _ _ ?_
              clear hK K
              try go_frame
              try go_frame
              refine Tkc.onlyC (i := 8) rfl (by kernel_rfl) (fun _ => trivial) (by rfl) (fun K hK => ?_)
              go_simp
              refine hK _ _ ?_
              clear hK K
              try go_frame
              refine Tkc.onlyC (i := 9) rfl (by kernel_rfl) (fun _ => trivial) (by rfl) (fun K hK => ?_)
              go_simp
              refine hK _ _ ?_
              clear hK K
              try go_frame
              refine Tkc.doneC (by kernel_rfl) (fun _ => trivial) ?_
              go_wp2
              refine ⟨⟨3, Or.inr (Or.inr (Or.inr ⟨rfl, by first | rfl | simp⟩)), ?_, hBaH.out⟩, ?_⟩
              · rw [← hRes.out]
              · simp [intOf]
          · clear hi
            refine Tkc.opC (i := 6) rfl (by rfl) (fun K hK => ?_)
            go_simp
            refine (hde _).mono ?_
            rintro e w6 ⟨rfl, hw6⟩
            have hw7 := hw6.symm
            subst hw7
            refine hK _ _ ?_
            clear hK K
            try go_frame
            refine Tkc.onlyC (i := 1) rfl (by kernel_rfl) (fun _ => trivial) (by rfl) (fun K hK => ?_)
            go_simp
            refine hK _ _ ?_
            clear hK K
            try go_frame
            have hnw := cells_new wd [.string ⟨#[99, 112, 117, 61]⟩, .string ⟨#[109, 101, 109, 61]⟩, .string ⟨#[103, 112, 117, 61]⟩] 9 2 _ rfl
            rw [Addr.add_lit, Nat.zero_add] at hnw
            have hBa : Below w3.heap.size w3 (wd.alloc (.cells #[.string ⟨#[99, 112, 117, 61]⟩, .string ⟨#[109, 101, 109, 61]⟩, .string ⟨#[103, 112, 117, 61]⟩] 9)) := hBd.out.alloc hBd.out.size _
            have hBaH : Hid (Below w3.heap.size w3 (wd.alloc (.cells #[.string ⟨#[99, 112, 117, 61]⟩, .string ⟨#[109, 101, 109, 61]⟩, .string ⟨#[103, 112, 117, 61]⟩] 9))) := hBa
            clear hBa
            have hnw : (wd.alloc (.cells #[.string ⟨#[99, 112, 117, 61]⟩, .string ⟨#[109, 101, 109, 61]⟩, .string ⟨#[103, 112, 117, 61]⟩] 9)).cell? ⟨wd.heap.size, 2, none⟩ = some (.string ⟨#[103, 112, 117, 61]⟩) := hnw
            generalize wd.alloc (.cells #[.string ⟨#[99, 112, 117, 61]⟩, .string ⟨#[109, 101, 109, 61]⟩, .string ⟨#[103, 112, 117, 61]⟩] 9) = we at *
            refine Tkc.takeC (i := 3) (v := .pointer (some ⟨wd.heap.size, 2, none⟩)) rfl (by kernel_rfl) (by kernel_rfl) (by kernel_rfl) (fun _ _ _ h => h) (by decide) (by kernel_rfl) (by kernel_rfl) trivial ⟨by rfl, fun w hw => by go_simp⟩ ?_
            try go_frame
            refine Tkc.onlyC (i := 4) rfl (by kernel_rfl) (fun _ => trivial) (by rfl) (fun K hK => ?_)
            go_simp
            refine hK _ _ ?_
            clear hK K
            try go_frame
            refine Tkc.onlyC (i := 7) rfl (by kernel_rfl) (fun _ => trivial) (by rfl) (fun K hK => ?_)
            go_simp
            refine hK _ _ ?_
            clear hK K
            try go_frame
            try go_frame
            refine Tkc.onlyC (i := 8) rfl (by kernel_rfl) (fun _ => trivial) (by rfl) (fun K hK => ?_)
            go_simp
            refine hK _ _ ?_
            clear hK K
            try go_frame
            refine Tkc.onlyC (i := 9) rfl (by kernel_rfl) (fun _ => trivial) (by rfl) (fun K hK => ?_)
            go_simp
            refine hK _ _ ?_
            clear hK K
            try go_frame
            refine Tkc.doneC (by kernel_rfl) (fun _ => trivial) ?_
            go_wp2
            refine ⟨⟨3, Or.inr (Or.inr (Or.inr ⟨rfl, by first | rfl | simp⟩)), ?_, hBaH.out⟩, ?_⟩
            · rw [← hRes.out]
            · simp [intOf]
    · by_cases he : itL a 3 = []
      · have hx : jn a 3 = [] := by unfold jn; rw [he]; rfl
        have htx : Hid (txN a = [45]) := if_pos he
        rw [hx]
        clear he hx
        go_wp2
        go_ret
        exact ⟨by rw [htx.out]; rfl, hBr.out⟩
      · have htx : Hid (txN a = jn a 3) := if_neg he
        have hnl : (jn a 3).isEmpty = false := jn_pos he
        generalize jn a 3 = js at *
        clear he
        go_wp2
        go_ret
        exact ⟨by rw [htx.out]; rfl, hBr.out⟩
end Go.Proofs.YtmhidmocmolgfaaDoor
