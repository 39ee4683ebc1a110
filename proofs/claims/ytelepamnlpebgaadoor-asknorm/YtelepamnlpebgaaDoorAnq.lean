/- ask.norm at an atom. -/
import Derived.Test.YtelepamnlpebgaaDoorAnr
namespace Go.Proofs.YtelepamnlpebgaaDoor
open Go.RowKit Go.Shelf Akm Ndm
set_option linter.unusedSectionVars false
set_option linter.unusedVariables false

set_option maxHeartbeats 8000000 in
set_option maxRecDepth 100000 in
theorem norm_atom (w0 : World) (k : Int) (n4 : ¬ k = 4) (n5 : ¬ k = 5) (n6 : ¬ k = 6) (a b : ByteArray) (n : Int) (xs : List Tr) : NormOk w0 (.mk k a b n xs) := by
  intro q v hv hok W hB k3 a3 b3 n3 xs3 m3 hN hm3
  obtain ⟨hsa, hsb⟩ := chE_sizes (okT_self hok)
  rw [liesT] at hv
  obtain ⟨p, cap, rfl, hxl, hxs⟩ := hv
  obtain ⟨m, hm⟩ : ∃ m, xs.length = m := ⟨_, rfl⟩
  rw [hm]
  rw [nrT, if_neg n4, if_neg (by omega)] at hN
  obtain ⟨h1, h4, hBW, hsz⟩ := norm_boxes W (.int .i64 k) (.string a) (.string b) (.int .i64 n) (.slice p m cap)
  have hw2 : ∀ w2, w2 = (W.alloc (.cells #[.int .i64 k, .string a, .string b, .int .i64 n, .slice p m cap] 24)).alloc (.cells #[.int .i64 0, .string ⟨#[]⟩, .string ⟨#[]⟩, .int .i64 0, .slice none 0 0] 24) → Below w2.heap.size w2 w2.drew := fun w2 _ => (Below.refl _ _).drew
  have hd := hw2 _ rfl
  clear hw2
  have d1 := (hd.block W.heap.size (by rw [hsz]; omega)).trans h1
  have d4 := (hd.block (W.heap.size + 1) (by rw [hsz]; omega)).trans h4
  have hBd : Below W.heap.size W _ := hBW.trans (hd.mono hBW.size)
  have hsd : ((W.alloc (.cells #[.int .i64 k, .string a, .string b, .int .i64 n, .slice p m cap] 24)).alloc (.cells #[.int .i64 0, .string ⟨#[]⟩, .string ⟨#[]⟩, .int .i64 0, .slice none 0 0] 24)).drew.heap.size = W.heap.size + 2 := hsz
  have d1H : Hid (_ = _) := d1
  have d4H : Hid (_ = _) := d4
  have hBdH : Hid (Below W.heap.size W _) := hBd
  have hsdH : Hid (_ = W.heap.size + 2) := hsd
  have hNH : Hid (_ = _) := hN
  have hm3H : Hid (_ = _) := hm3
  have m4 : (k == 4) = false := by simpa using n4
  have m5 : (k == 5) = false := by simpa using n5
  have m6 : (k == 6) = false := by simpa using n6
  have hca := fun w1 => clone_any a hsa w1
  have hcb := fun w1 => clone_any b hsb w1
  clear h1 h4 hBW hsz hd d1 d4 hBd hsd hN hm3 hok hxl hxs hB hsa hsb hm n4 n5 n6
  go_enter Tryd.func39, Tryd.ntmps39
  go_wp2
  refine Tkc.region_anyC (C := fun w' => Below (W.heap.size + 2) (((W.alloc (.cells #[.int .i64 k, .string a, .string b, .int .i64 n, .slice p m cap] 24)).alloc (.cells #[.int .i64 0, .string ⟨#[]⟩, .string ⟨#[]⟩, .int .i64 0, .slice none 0 0] 24)).drew) w') (s := 13) (by kernel_rfl) ?_
  generalize ((W.alloc (.cells #[.int .i64 k, .string a, .string b, .int .i64 n, .slice p m cap] 24)).alloc (.cells #[.int .i64 0, .string ⟨#[]⟩, .string ⟨#[]⟩, .int .i64 0, .slice none 0 0] 24)).drew = wd at *
  have hcz : Below (W.heap.size + 2) wd wd := Below.refl _ _
  obtain ⟨y0, y1, y2, y3, y4⟩ := box5 d1H.out
  have hcl : ∀ w', Below (W.heap.size + 2) wd w' → w'.cell? ⟨W.heap.size, 0, none⟩ = some (.int .i64 k) ∧ w'.cell? ⟨W.heap.size, 1, none⟩ = some (.string a) ∧ w'.cell? ⟨W.heap.size, 2, none⟩ = some (.string b) ∧ w'.cell? ⟨W.heap.size, 3, none⟩ = some (.int .i64 n) := by
    intro w' hw'
    have cc : ∀ of c, wd.cell? ⟨W.heap.size, of, none⟩ = some c → w'.cell? ⟨W.heap.size, of, none⟩ = some c := fun of c h => (hw'.cell (p := ⟨W.heap.size, of, none⟩) (by show W.heap.size < _; omega)).trans h
    exact ⟨cc _ _ y0, cc _ _ y1, cc _ _ y2, cc _ _ y3⟩
  clear y0 y1 y2 y3 y4
  refine Tkc.takeC (i := 0) (v := .pointer (some ⟨W.heap.size, 0, none⟩)) rfl (by kernel_rfl) (by kernel_rfl) (by kernel_rfl) (fun _ _ _ h => h) (by decide) (by kernel_rfl) (by kernel_rfl) hcz ⟨by rfl, fun w hw => by obtain ⟨z0, z1, z2, z3⟩ := hcl w hw; go_simp⟩ ?_
  try go_frame
  refine Tkc.takeC (i := 1) (v := .int .i64 k) rfl (by kernel_rfl) (by kernel_rfl) (by kernel_rfl) (fun _ _ _ h => h) (by decide) (by kernel_rfl) (by kernel_rfl) hcz ⟨by rfl, fun w hw => by obtain ⟨z0, z1, z2, z3⟩ := hcl w hw; go_simp⟩ ?_
  try go_frame
  refine Tkc.takeC (i := 2) (v := .pointer (some ⟨W.heap.size, 1, none⟩)) rfl (by kernel_rfl) (by kernel_rfl) (by kernel_rfl) (fun _ _ _ h => h) (by decide) (by kernel_rfl) (by kernel_rfl) hcz ⟨by rfl, fun w hw => by obtain ⟨z0, z1, z2, z3⟩ := hcl w hw; go_simp⟩ ?_
  try go_frame
  refine Tkc.takeC (i := 3) (v := .string a) rfl (by kernel_rfl) (by kernel_rfl) (by kernel_rfl) (fun _ _ _ h => h) (by decide) (by kernel_rfl) (by kernel_rfl) hcz ⟨by rfl, fun w hw => by obtain ⟨z0, z1, z2, z3⟩ := hcl w hw; go_simp⟩ ?_
  try go_frame
  refine Tkc.takeC (i := 5) (v := .pointer (some ⟨W.heap.size, 2, none⟩)) rfl (by kernel_rfl) (by kernel_rfl) (by kernel_rfl) (fun _ _ _ h => h) (by decide) (by kernel_rfl) (by kernel_rfl) hcz ⟨by rfl, fun w hw => by obtain ⟨z0, z1, z2, z3⟩ := hcl w hw; go_simp⟩ ?_
  try go_frame
  refine Tkc.takeC (i := 6) (v := .string b) rfl (by kernel_rfl) (by kernel_rfl) (by kernel_rfl) (fun _ _ _ h => h) (by decide) (by kernel_rfl) (by kernel_rfl) hcz ⟨by rfl, fun w hw => by obtain ⟨z0, z1, z2, z3⟩ := hcl w hw; go_simp⟩ ?_
  try go_frame
  refine Tkc.takeC (i := 8) (v := .pointer (some ⟨W.heap.size, 3, none⟩)) rfl (by kernel_rfl) (by kernel_rfl) (by kernel_rfl) (fun _ _ _ h => h) (by decide) (by kernel_rfl) (by kernel_rfl) hcz ⟨by rfl, fun w hw => by obtain ⟨z0, z1, z2, z3⟩ := hcl w hw; go_simp⟩ ?_
  try go_frame
  refine Tkc.takeC (i := 9) (v := .int .i64 n) rfl (by kernel_rfl) (by kernel_rfl) (by kernel_rfl) (fun _ _ _ h => h) (by decide) (by kernel_rfl) (by kernel_rfl) hcz ⟨by rfl, fun w hw => by obtain ⟨z0, z1, z2, z3⟩ := hcl w hw; go_simp⟩ ?_
  try go_frame
  clear hcl
  refine Tkc.manyC [4, 11] (by kernel_rfl) (by decide) (fun _ => hcz) ?_
  intro i hi
  rcases (show i = 4 ∨ i = 11 by simpa using hi) with rfl | rfl
  · clear hi
    refine Tkc.opC (i := 4) rfl (by rfl) (fun K hK => ?_)
    go_simp
    refine (hca wd).mono ?_
    rintro e w1 ⟨rfl, hb1⟩
    have hcz1 : Below (W.heap.size + 2) wd w1 := hcz.trans (hb1.mono (by have h9 := hcz.size; have h8 := hsdH.out; omega))
    clear hb1
    refine hK _ _ ?_
    clear hK K
    try go_frame
    refine Tkc.manyC [7, 11] (by kernel_rfl) (by decide) (fun _ => hcz1) ?_
    intro i hi
    rcases (show i = 7 ∨ i = 11 by simpa using hi) with rfl | rfl
    · clear hi
      refine Tkc.opC (i := 7) rfl (by rfl) (fun K hK => ?_)
      go_simp
      refine (hcb w1).mono ?_
      rintro e w2 ⟨rfl, hb2⟩
      have hcz2 : Below (W.heap.size + 2) wd w2 := hcz1.trans (hb2.mono (by have h9 := hcz1.size; have h8 := hsdH.out; omega))
      clear hb2
      refine hK _ _ ?_
      clear hK K
      try go_frame
      refine Tkc.manyC [10, 11] (by kernel_rfl) (by decide) (fun _ => hcz2) ?_
      intro i hi
      rcases (show i = 10 ∨ i = 11 by simpa using hi) with rfl | rfl
      · clear hi
        refine Tkc.opC (i := 10) rfl (by rfl) (fun K hK => ?_)
        go_simp
        refine hK _ _ ?_
        clear hK K
        try go_frame
        refine Tkc.onlyC (i := 11) rfl (by kernel_rfl) (fun _ => hcz2) (by rfl) (fun K hK => ?_)
        go_simp
        have gA3 := heap_alloc_new w2 (.cells #[.int .i64 0, .string ⟨#[]⟩, .string ⟨#[]⟩, .int .i64 0, .slice none 0 0] 24)
        have hga : W.heap.size + 2 ≤ w2.heap.size := by have h9 := hcz2.size; have h8 := hsdH.out; omega
        have hcz3 : Below (W.heap.size + 2) wd (w2.alloc (.cells #[.int .i64 0, .string ⟨#[]⟩, .string ⟨#[]⟩, .int .i64 0, .slice none 0 0] 24)) := hcz2.alloc hga _
        generalize w2.alloc (.cells #[.int .i64 0, .string ⟨#[]⟩, .string ⟨#[]⟩, .int .i64 0, .slice none 0 0] 24) = w3 at *
        generalize w2.heap.size = ga at gA3 hga ⊢
        refine hK _ _ ?_
        clear hK K
        try go_frame
        refine Tkc.onlyC (i := 12) rfl (by kernel_rfl) (fun _ => hcz3) (by rfl) (fun K hK => ?_)
        refine wp_store_row 24 _ _ rfl ga #[.int .i64 k, .string a, .string b, .int .i64 n, .slice none 0 0] rfl rfl _ _ gA3 (ask_info _ rfl) rfl (ask_one _ _ _ _ _ _ _) ?_
        have gz := setRow_heap w3 ga _ #[.int .i64 k, .string a, .string b, .int .i64 n, .slice none 0 0] _ _ gA3
        have hczz : Below (W.heap.size + 2) wd (w3.setRow ga #[.int .i64 k, .string a, .string b, .int .i64 n, .slice none 0 0]) := below_row hcz3 hga
        generalize w3.setRow ga #[.int .i64 k, .string a, .string b, .int .i64 n, .slice none 0 0] = wz at *
        refine hK _ _ ?_
        clear hK K
        try go_frame
        refine Tkc.doneC (by kernel_rfl) (fun _ => hczz) ?_
        have g4 := (hczz.block (W.heap.size + 1) (by omega)).trans d4H.out
        have hsz : W.heap.size + 2 ≤ wz.heap.size := by have h9 := hczz.size; have h8 := hsdH.out; omega
        have hcH : Hid (Below (W.heap.size + 2) wd wz) := hczz
        have hszH : Hid (W.heap.size + 2 ≤ wz.heap.size) := hsz
        have g4b := (Below.heap_alloc wz (.cells #[.int .i64 k, .string a, .string b, .int .i64 n, .slice none 0 0] 24) (W.heap.size + 1) (by omega)).trans g4
        clear hczz hsz hcz hca hcb hcz1 hcz2 hcz3 hga gA3
        cases q with
        | false =>
          have hN2 := hNH.out
          rw [if_neg (by decide)] at hN2
          obtain ⟨rfl, rfl, rfl, rfl, rfl⟩ := Tr.mk.inj hN2
          obtain rfl : 0 = m3 := hm3H.out
          clear hN2 g4b
          go_wp2_with (first
            | (refine load_wanted rfl 24 _ rfl _ rfl _ _ _ _ (gz) Tryd.underlying24 rfl (ask_info _ rfl) ?_)
            | (refine wpList_store_row rfl 24 _ _ rfl _ #[.int .i64 k, .string a, .string b, .int .i64 n, .slice none 0 0] rfl rfl _ _ (g4) (ask_info _ rfl) rfl (ask_one _ _ _ _ _ _ _) ?_)
            | go_in)
          refine bodyPost_ret (results_cell_row Tryd.results39 _ _ (W.heap.size + 1) _ #[.int .i64 k, .string a, .string b, .int .i64 n, .slice none 0 0] (0, 0) _ rfl (setRow_heap wz (W.heap.size + 1) _ _ _ _ g4) Tryd.underlying24 rfl (ask_info _ rfl)) rfl ?_
          exact ⟨⟨none, 0, rfl, liesF_nil _ _ _ _ _ _⟩, below_row (hBdH.out.trans (hcH.out.mono (by omega))) (by omega)⟩
        | true =>
          have hN2 := hNH.out
          rw [if_pos rfl] at hN2
          obtain ⟨rfl, rfl, rfl, rfl, rfl⟩ := Tr.mk.inj hN2
          obtain rfl : 1 = m3 := hm3H.out
          clear hN2
          go_wp2_with (first
            | (refine load_wanted rfl 24 _ rfl _ rfl _ _ _ _ (gz) Tryd.underlying24 rfl (ask_info _ rfl) ?_)
            | (refine wpList_store_row rfl 24 _ _ rfl _ #[.int .i64 4, .string ⟨#[]⟩, .string ⟨#[]⟩, .int .i64 0, .slice (some ⟨wz.heap.size, 0, none⟩) 1 1] rfl rfl _ _ (g4b) (ask_info _ rfl) rfl (ask_one _ _ _ _ _ _ _) ?_)
            | go_in)
          refine bodyPost_ret (results_cell_row Tryd.results39 _ _ (W.heap.size + 1) _ #[.int .i64 4, .string ⟨#[]⟩, .string ⟨#[]⟩, .int .i64 0, .slice (some ⟨wz.heap.size, 0, none⟩) 1 1] (0, 0) _ rfl (setRow_heap (wz.alloc (.cells #[.int .i64 k, .string a, .string b, .int .i64 n, .slice none 0 0] 24)) (W.heap.size + 1) _ _ _ _ g4b) Tryd.underlying24 rfl (ask_info _ rfl)) rfl ?_
          refine ⟨⟨_, _, rfl, ((liesF_of1 (B := W.heap.size + 2) hszH.out (heap_alloc_new _ _) (liesF_nil _ _ _ _ _ _) _ _ _ _ _).row (by omega) _).le (by omega)⟩, below_row ((hBdH.out.trans (hcH.out.mono (by omega))).alloc (by have := hszH.out; omega) _) (by omega)⟩
      · clear hi
        refine Tkc.opC (i := 11) rfl (by rfl) (fun K hK => ?_)
        go_simp
        have gA3 := heap_alloc_new w2 (.cells #[.int .i64 0, .string ⟨#[]⟩, .string ⟨#[]⟩, .int .i64 0, .slice none 0 0] 24)
        have hga : W.heap.size + 2 ≤ w2.heap.size := by have h9 := hcz2.size; have h8 := hsdH.out; omega
        have hcz3 : Below (W.heap.size + 2) wd (w2.alloc (.cells #[.int .i64 0, .string ⟨#[]⟩, .string ⟨#[]⟩, .int .i64 0, .slice none 0 0] 24)) := hcz2.alloc hga _
        generalize w2.alloc (.cells #[.int .i64 0, .string ⟨#[]⟩, .string ⟨#[]⟩, .int .i64 0, .slice none 0 0] 24) = w3 at *
        generalize w2.heap.size = ga at gA3 hga ⊢
        refine hK _ _ ?_
        clear hK K
        try go_frame
        refine Tkc.onlyC (i := 10) rfl (by kernel_rfl) (fun _ => hcz3) (by rfl) (fun K hK => ?_)
        go_simp
        refine hK _ _ ?_
        clear hK K
        try go_frame
        refine Tkc.onlyC (i := 12) rfl (by kernel_rfl) (fun _ => hcz3) (by rfl) (fun K hK => ?_)
        refine wp_store_row 24 _ _ rfl ga #[.int .i64 k, .string a, .string b, .int .i64 n, .slice none 0 0] rfl rfl _ _ gA3 (ask_info _ rfl) rfl (ask_one _ _ _ _ _ _ _) ?_
        have gz := setRow_heap w3 ga _ #[.int .i64 k, .string a, .string b, .int .i64 n, .slice none 0 0] _ _ gA3
        have hczz : Below (W.heap.size + 2) wd (w3.setRow ga #[.int .i64 k, .string a, .string b, .int .i64 n, .slice none 0 0]) := below_row hcz3 hga
        generalize w3.setRow ga #[.int .i64 k, .string a, .string b, .int .i64 n, .slice none 0 0] = wz at *
        refine hK _ _ ?_
        clear hK K
        try go_frame
        refine Tkc.doneC (by kernel_rfl) (fun _ => hczz) ?_
        have g4 := (hczz.block (W.heap.size + 1) (by omega)).trans d4H.out
        have hsz : W.heap.size + 2 ≤ wz.heap.size := by have h9 := hczz.size; have h8 := hsdH.out; omega
        have hcH : Hid (Below (W.heap.size + 2) wd wz) := hczz
        have hszH : Hid (W.heap.size + 2 ≤ wz.heap.size) := hsz
        have g4b := (Below.heap_alloc wz (.cells #[.int .i64 k, .string a, .string b, .int .i64 n, .slice none 0 0] 24) (W.heap.size + 1) (by omega)).trans g4
        clear hczz hsz hcz hca hcb hcz1 hcz2 hcz3 hga gA3
        cases q with
        | false =>
          have hN2 := hNH.out
          rw [if_neg (by decide)] at hN2
          obtain ⟨rfl, rfl, rfl, rfl, rfl⟩ := Tr.mk.inj hN2
          obtain rfl : 0 = m3 := hm3H.out
          clear hN2 g4b
          go_wp2_with (first
            | (refine load_wanted rfl 24 _ rfl _ rfl _ _ _ _ (gz) Tryd.underlying24 rfl (ask_info _ rfl) ?_)
            | (refine wpList_store_row rfl 24 _ _ rfl _ #[.int .i64 k, .string a, .string b, .int .i64 n, .slice none 0 0] rfl rfl _ _ (g4) (ask_info _ rfl) rfl (ask_one _ _ _ _ _ _ _) ?_)
            | go_in)
          refine bodyPost_ret (results_cell_row Tryd.results39 _ _ (W.heap.size + 1) _ #[.int .i64 k, .string a, .string b, .int .i64 n, .slice none 0 0] (0, 0) _ rfl (setRow_heap wz (W.heap.size + 1) _ _ _ _ g4) Tryd.underlying24 rfl (ask_info _ rfl)) rfl ?_
          exact ⟨⟨none, 0, rfl, liesF_nil _ _ _ _ _ _⟩, below_row (hBdH.out.trans (hcH.out.mono (by omega))) (by omega)⟩
        | true =>
          have hN2 := hNH.out
          rw [if_pos rfl] at hN2
          obtain ⟨rfl, rfl, rfl, rfl, rfl⟩ := Tr.mk.inj hN2
          obtain rfl : 1 = m3 := hm3H.out
          clear hN2
          go_wp2_with (first
            | (refine load_wanted rfl 24 _ rfl _ rfl _ _ _ _ (gz) Tryd.underlying24 rfl (ask_info _ rfl) ?_)
            | (refine wpList_store_row rfl 24 _ _ rfl _ #[.int .i64 4, .string ⟨#[]⟩, .string ⟨#[]⟩, .int .i64 0, .slice (some ⟨wz.heap.size, 0, none⟩) 1 1] rfl rfl _ _ (g4b) (ask_info _ rfl) rfl (ask_one _ _ _ _ _ _ _) ?_)
            | go_in)
          refine bodyPost_ret (results_cell_row Tryd.results39 _ _ (W.heap.size + 1) _ #[.int .i64 4, .string ⟨#[]⟩, .string ⟨#[]⟩, .int .i64 0, .slice (some ⟨wz.heap.size, 0, none⟩) 1 1] (0, 0) _ rfl (setRow_heap (wz.alloc (.cells #[.int .i64 k, .string a, .string b, .int .i64 n, .slice none 0 0] 24)) (W.heap.size + 1) _ _ _ _ g4b) Tryd.underlying24 rfl (ask_info _ rfl)) rfl ?_
          refine ⟨⟨_, _, rfl, ((liesF_of1 (B := W.heap.size + 2) hszH.out (heap_alloc_new _ _) (liesF_nil _ _ _ _ _ _) _ _ _ _ _).row (by omega) _).le (by omega)⟩, below_row ((hBdH.out.trans (hcH.out.mono (by omega))).alloc (by have := hszH.out; omega) _) (by omega)⟩
    · clear hi
      refine Tkc.opC (i := 11) rfl (by rfl) (fun K hK => ?_)
      go_simp
      have gA2 := heap_alloc_new w1 (.cells #[.int .i64 0, .string ⟨#[]⟩, .string ⟨#[]⟩, .int .i64 0, .slice none 0 0] 24)
      have hga : W.heap.size + 2 ≤ w1.heap.size := by have h9 := hcz1.size; have h8 := hsdH.out; omega
      have hcz2 : Below (W.heap.size + 2) wd (w1.alloc (.cells #[.int .i64 0, .string ⟨#[]⟩, .string ⟨#[]⟩, .int .i64 0, .slice none 0 0] 24)) := hcz1.alloc hga _
      generalize w1.alloc (.cells #[.int .i64 0, .string ⟨#[]⟩, .string ⟨#[]⟩, .int .i64 0, .slice none 0 0] 24) = w2 at *
      generalize w1.heap.size = ga at gA2 hga ⊢
      refine hK _ _ ?_
      clear hK K
      try go_frame
      refine Tkc.onlyC (i := 7) rfl (by kernel_rfl) (fun _ => hcz2) (by rfl) (fun K hK => ?_)
      go_simp
      refine (hcb w2).mono ?_
      rintro e w3 ⟨rfl, hb3⟩
      have hcz3 : Below (W.heap.size + 2) wd w3 := hcz2.trans (hb3.mono (by have h9 := hcz2.size; have h8 := hsdH.out; omega))
      have gA3 := (hb3.block ga (Array.getElem?_eq_some_iff.1 gA2).1).trans gA2
      clear hb3
      refine hK _ _ ?_
      clear hK K
      try go_frame
      refine Tkc.onlyC (i := 10) rfl (by kernel_rfl) (fun _ => hcz3) (by rfl) (fun K hK => ?_)
      go_simp
      refine hK _ _ ?_
      clear hK K
      try go_frame
      refine Tkc.onlyC (i := 12) rfl (by kernel_rfl) (fun _ => hcz3) (by rfl) (fun K hK => ?_)
      refine wp_store_row 24 _ _ rfl ga #[.int .i64 k, .string a, .string b, .int .i64 n, .slice none 0 0] rfl rfl _ _ gA3 (ask_info _ rfl) rfl (ask_one _ _ _ _ _ _ _) ?_
      have gz := setRow_heap w3 ga _ #[.int .i64 k, .string a, .string b, .int .i64 n, .slice none 0 0] _ _ gA3
      have hczz : Below (W.heap.size + 2) wd (w3.setRow ga #[.int .i64 k, .string a, .string b, .int .i64 n, .slice none 0 0]) := below_row hcz3 hga
      generalize w3.setRow ga #[.int .i64 k, .string a, .string b, .int .i64 n, .slice none 0 0] = wz at *
      refine hK _ _ ?_
      clear hK K
      try go_frame
      refine Tkc.doneC (by kernel_rfl) (fun _ => hczz) ?_
      have g4 := (hczz.block (W.heap.size + 1) (by omega)).trans d4H.out
      have hsz : W.heap.size + 2 ≤ wz.heap.size := by have h9 := hczz.size; have h8 := hsdH.out; omega
      have hcH : Hid (Below (W.heap.size + 2) wd wz) := hczz
      have hszH : Hid (W.heap.size + 2 ≤ wz.heap.size) := hsz
      have g4b := (Below.heap_alloc wz (.cells #[.int .i64 k, .string a, .string b, .int .i64 n, .slice none 0 0] 24) (W.heap.size + 1) (by omega)).trans g4
      clear hczz hsz hcz hca hcb hcz1 hcz2 hcz3 hga gA3
      cases q with
      | false =>
        have hN2 := hNH.out
        rw [if_neg (by decide)] at hN2
        obtain ⟨rfl, rfl, rfl, rfl, rfl⟩ := Tr.mk.inj hN2
        obtain rfl : 0 = m3 := hm3H.out
        clear hN2 g4b
        go_wp2_with (first
          | (refine load_wanted rfl 24 _ rfl _ rfl _ _ _ _ (gz) Tryd.underlying24 rfl (ask_info _ rfl) ?_)
          | (refine wpList_store_row rfl 24 _ _ rfl _ #[.int .i64 k, .string a, .string b, .int .i64 n, .slice none 0 0] rfl rfl _ _ (g4) (ask_info _ rfl) rfl (ask_one _ _ _ _ _ _ _) ?_)
          | go_in)
        refine bodyPost_ret (results_cell_row Tryd.results39 _ _ (W.heap.size + 1) _ #[.int .i64 k, .string a, .string b, .int .i64 n, .slice none 0 0] (0, 0) _ rfl (setRow_heap wz (W.heap.size + 1) _ _ _ _ g4) Tryd.underlying24 rfl (ask_info _ rfl)) rfl ?_
        exact ⟨⟨none, 0, rfl, liesF_nil _ _ _ _ _ _⟩, below_row (hBdH.out.trans (hcH.out.mono (by omega))) (by omega)⟩
      | true =>
        have hN2 := hNH.out
        rw [if_pos rfl] at hN2
        obtain ⟨rfl, rfl, rfl, rfl, rfl⟩ := Tr.mk.inj hN2
        obtain rfl : 1 = m3 := hm3H.out
        clear hN2
        go_wp2_with (first
          | (refine load_wanted rfl 24 _ rfl _ rfl _ _ _ _ (gz) Tryd.underlying24 rfl (ask_info _ rfl) ?_)
          | (refine wpList_store_row rfl 24 _ _ rfl _ #[.int .i64 4, .string ⟨#[]⟩, .string ⟨#[]⟩, .int .i64 0, .slice (some ⟨wz.heap.size, 0, none⟩) 1 1] rfl rfl _ _ (g4b) (ask_info _ rfl) rfl (ask_one _ _ _ _ _ _ _) ?_)
          | go_in)
        refine bodyPost_ret (results_cell_row Tryd.results39 _ _ (W.heap.size + 1) _ #[.int .i64 4, .string ⟨#[]⟩, .string ⟨#[]⟩, .int .i64 0, .slice (some ⟨wz.heap.size, 0, none⟩) 1 1] (0, 0) _ rfl (setRow_heap (wz.alloc (.cells #[.int .i64 k, .string a, .string b, .int .i64 n, .slice none 0 0] 24)) (W.heap.size + 1) _ _ _ _ g4b) Tryd.underlying24 rfl (ask_info _ rfl)) rfl ?_
        refine ⟨⟨_, _, rfl, ((liesF_of1 (B := W.heap.size + 2) hszH.out (heap_alloc_new _ _) (liesF_nil _ _ _ _ _ _) _ _ _ _ _).row (by omega) _).le (by omega)⟩, below_row ((hBdH.out.trans (hcH.out.mono (by omega))).alloc (by have := hszH.out; omega) _) (by omega)⟩
  · clear hi
    refine Tkc.opC (i := 11) rfl (by rfl) (fun K hK => ?_)
    go_simp
    have gA1 := heap_alloc_new wd (.cells #[.int .i64 0, .string ⟨#[]⟩, .string ⟨#[]⟩, .int .i64 0, .slice none 0 0] 24)
    have hga : W.heap.size + 2 ≤ wd.heap.size := by have h9 := hcz.size; have h8 := hsdH.out; omega
    have hcz1 : Below (W.heap.size + 2) wd (wd.alloc (.cells #[.int .i64 0, .string ⟨#[]⟩, .string ⟨#[]⟩, .int .i64 0, .slice none 0 0] 24)) := hcz.alloc hga _
    generalize wd.alloc (.cells #[.int .i64 0, .string ⟨#[]⟩, .string ⟨#[]⟩, .int .i64 0, .slice none 0 0] 24) = w1 at *
    generalize wd.heap.size = ga at gA1 hga ⊢
    refine hK _ _ ?_
    clear hK K
    try go_frame
    refine Tkc.onlyC (i := 4) rfl (by kernel_rfl) (fun _ => hcz1) (by rfl) (fun K hK => ?_)
    go_simp
    refine (hca w1).mono ?_
    rintro e w2 ⟨rfl, hb2⟩
    have hcz2 : Below (W.heap.size + 2) wd w2 := hcz1.trans (hb2.mono (by have h9 := hcz1.size; have h8 := hsdH.out; omega))
    have gA2 := (hb2.block ga (Array.getElem?_eq_some_iff.1 gA1).1).trans gA1
    clear hb2
    refine hK _ _ ?_
    clear hK K
    try go_frame
    refine Tkc.onlyC (i := 7) rfl (by kernel_rfl) (fun _ => hcz2) (by rfl) (fun K hK => ?_)
    go_simp
    refine (hcb w2).mono ?_
    rintro e w3 ⟨rfl, hb3⟩
    have hcz3 : Below (W.heap.size + 2) wd w3 := hcz2.trans (hb3.mono (by have h9 := hcz2.size; have h8 := hsdH.out; omega))
    have gA3 := (hb3.block ga (Array.getElem?_eq_some_iff.1 gA2).1).trans gA2
    clear hb3
    refine hK _ _ ?_
    clear hK K
    try go_frame
    refine Tkc.onlyC (i := 10) rfl (by kernel_rfl) (fun _ => hcz3) (by rfl) (fun K hK => ?_)
    go_simp
    refine hK _ _ ?_
    clear hK K
    try go_frame
    refine Tkc.onlyC (i := 12) rfl (by kernel_rfl) (fun _ => hcz3) (by rfl) (fun K hK => ?_)
    refine wp_store_row 24 _ _ rfl ga #[.int .i64 k, .string a, .string b, .int .i64 n, .slice none 0 0] rfl rfl _ _ gA3 (ask_info _ rfl) rfl (ask_one _ _ _ _ _ _ _) ?_
    have gz := setRow_heap w3 ga _ #[.int .i64 k, .string a, .string b, .int .i64 n, .slice none 0 0] _ _ gA3
    have hczz : Below (W.heap.size + 2) wd (w3.setRow ga #[.int .i64 k, .string a, .string b, .int .i64 n, .slice none 0 0]) := below_row hcz3 hga
    generalize w3.setRow ga #[.int .i64 k, .string a, .string b, .int .i64 n, .slice none 0 0] = wz at *
    refine hK _ _ ?_
    clear hK K
    try go_frame
    refine Tkc.doneC (by kernel_rfl) (fun _ => hczz) ?_
    have g4 := (hczz.block (W.heap.size + 1) (by omega)).trans d4H.out
    have hsz : W.heap.size + 2 ≤ wz.heap.size := by have h9 := hczz.size; have h8 := hsdH.out; omega
    have hcH : Hid (Below (W.heap.size + 2) wd wz) := hczz
    have hszH : Hid (W.heap.size + 2 ≤ wz.heap.size) := hsz
    have g4b := (Below.heap_alloc wz (.cells #[.int .i64 k, .string a, .string b, .int .i64 n, .slice none 0 0] 24) (W.heap.size + 1) (by omega)).trans g4
    clear hczz hsz hcz hca hcb hcz1 hcz2 hcz3 hga gA3
    cases q with
    | false =>
      have hN2 := hNH.out
      rw [if_neg (by decide)] at hN2
      obtain ⟨rfl, rfl, rfl, rfl, rfl⟩ := Tr.mk.inj hN2
      obtain rfl : 0 = m3 := hm3H.out
      clear hN2 g4b
      go_wp2_with (first
        | (refine load_wanted rfl 24 _ rfl _ rfl _ _ _ _ (gz) Tryd.underlying24 rfl (ask_info _ rfl) ?_)
        | (refine wpList_store_row rfl 24 _ _ rfl _ #[.int .i64 k, .string a, .string b, .int .i64 n, .slice none 0 0] rfl rfl _ _ (g4) (ask_info _ rfl) rfl (ask_one _ _ _ _ _ _ _) ?_)
        | go_in)
      refine bodyPost_ret (results_cell_row Tryd.results39 _ _ (W.heap.size + 1) _ #[.int .i64 k, .string a, .string b, .int .i64 n, .slice none 0 0] (0, 0) _ rfl (setRow_heap wz (W.heap.size + 1) _ _ _ _ g4) Tryd.underlying24 rfl (ask_info _ rfl)) rfl ?_
      exact ⟨⟨none, 0, rfl, liesF_nil _ _ _ _ _ _⟩, below_row (hBdH.out.trans (hcH.out.mono (by omega))) (by omega)⟩
    | true =>
      have hN2 := hNH.out
      rw [if_pos rfl] at hN2
      obtain ⟨rfl, rfl, rfl, rfl, rfl⟩ := Tr.mk.inj hN2
      obtain rfl : 1 = m3 := hm3H.out
      clear hN2
      go_wp2_with (first
        | (refine load_wanted rfl 24 _ rfl _ rfl _ _ _ _ (gz) Tryd.underlying24 rfl (ask_info _ rfl) ?_)
        | (refine wpList_store_row rfl 24 _ _ rfl _ #[.int .i64 4, .string ⟨#[]⟩, .string ⟨#[]⟩, .int .i64 0, .slice (some ⟨wz.heap.size, 0, none⟩) 1 1] rfl rfl _ _ (g4b) (ask_info _ rfl) rfl (ask_one _ _ _ _ _ _ _) ?_)
        | go_in)
      refine bodyPost_ret (results_cell_row Tryd.results39 _ _ (W.heap.size + 1) _ #[.int .i64 4, .string ⟨#[]⟩, .string ⟨#[]⟩, .int .i64 0, .slice (some ⟨wz.heap.size, 0, none⟩) 1 1] (0, 0) _ rfl (setRow_heap (wz.alloc (.cells #[.int .i64 k, .string a, .string b, .int .i64 n, .slice none 0 0] 24)) (W.heap.size + 1) _ _ _ _ g4b) Tryd.underlying24 rfl (ask_info _ rfl)) rfl ?_
      refine ⟨⟨_, _, rfl, ((liesF_of1 (B := W.heap.size + 2) hszH.out (heap_alloc_new _ _) (liesF_nil _ _ _ _ _ _) _ _ _ _ _).row (by omega) _).le (by omega)⟩, below_row ((hBdH.out.trans (hcH.out.mono (by omega))).alloc (by have := hszH.out; omega) _) (by omega)⟩

end Go.Proofs.YtelepamnlpebgaaDoor
