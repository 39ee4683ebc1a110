/- What the reference's cronItem answers: a contract, proved by walks over its own text. -/
import Derived.Test.YthebcdadoinflaaDoorTdg
import Derived.Test.YthebcdadoinflaaDoorItp
namespace Go.Proofs.YthebcdadoinflaaDoor
open Go.RowKit Cal Crn Txt

theorem owns_cell {w : World} {base n : Nat} {e : TypeId} {g cap : Nat} {ls : List (List UInt8)} (hn : n = ls.length) (h : w.ownsRow base e 1 (.slice (some ⟨g, 0, none⟩) n cap) n (strs ls)) :
    (∀ j, j < ls.length → w.cell? ⟨g, j, none⟩ = some (.string ⟨(ls.getD j []).toArray⟩)) ∧ g < w.heap.size := by
  rcases h.2 with ⟨h1, _⟩ | ⟨g', cap', cur, h1, h2, h3, h4, _, h5, h6⟩
  · cases h1
  · simp only [Value.slice.injEq, Option.some.injEq, Addr.mk.injEq] at h1
    obtain ⟨⟨rfl, _, _⟩, _, _⟩ := h1
    refine ⟨?_, ?_⟩
    · intro j hj
      have e1 : (strs ls)[j]? = some (.string ⟨(ls.getD j []).toArray⟩) := by
        unfold strs
        rw [List.getElem?_map, List.getD_eq_getElem?_getD, List.getElem?_eq_getElem hj]
        rfl
      rw [← h6, List.getElem?_take_of_lt (by omega)] at e1
      simp [World.cell?, h3]
      simpa using e1
    · rcases Nat.lt_or_ge g w.heap.size with l | l
      · exact l
      · have e : w.heap[g]? = none := by simp; exact l
        rw [e] at h3
        cases h3
theorem Pieces_n (l : List UInt8) (c : UInt8) (n : Nat) (hn : (sp c l).length = n) (w : World) (hl : l.length ≤ 200) :
    Calls Tryd.prog 18 #[.string ⟨l.toArray⟩, .int .u8 c.toNat] w fun e w' => ∃ g cap : Nat, e = .returned (.slice (some ⟨g, 0, none⟩) n cap) ∧ (∀ j, j < n → w'.cell? ⟨g, j, none⟩ = some (.string ⟨((sp c l).getD j []).toArray⟩)) ∧ g < w'.heap.size ∧ Below w.heap.size w w' := by
  refine (Pieces_any l c w hl).mono ?_
  rintro e w' ⟨g, cap, rfl, hown, hb⟩
  obtain ⟨h1, h2⟩ := owns_cell rfl hown
  subst hn
  exact ⟨g, cap, rfl, h1, h2, hb⟩

set_option maxHeartbeats 2000000 in
theorem item_many (lo hi : Nat) (_hlh : lo ≤ hi) (_hh : hi < 64) (l : List UInt8) (hl : l.length ≤ 200) (w : World) (n : Nat) (hn : (sp 47 l).length = n) (h2 : 2 < n) :
    Calls Tryd.prog 20 #[.string ⟨l.toArray⟩, .int .i64 lo, .int .i64 hi] w fun e w' => e = .returned (.tuple #[.int .u64 0, .bool false]) ∧ Below w.heap.size w w' := by
  have c := Pieces_n l 47 n hn w hl
  rw [show (47 : UInt8).toNat = 47 from rfl] at c
  generalize ByteArray.mk l.toArray = s0 at *
  go_enter Tryd.func20, Tryd.ntmps20
  go_wp2_with fail
  refine c.mono ?_
  rintro e w1 ⟨g, cap, rfl, hcell, hg, hb1⟩
  clear c
  go_wp2_with fail
  go_ret2
  exact ⟨rfl, hb1⟩

set_option maxHeartbeats 2000000 in
theorem item_many2 (lo hi : Nat) (_hlh : lo ≤ hi) (_hh : hi < 64) (l : List UInt8) (hl : l.length ≤ 200) (w : World) (n : Nat) (hn : (sp 47 l).length = n) (hn1 : 1 ≤ n) (hn2 : n ≤ 2) (a : List UInt8) (ha : (sp 47 l).getD 0 [] = a) (hal : a.length ≤ 200) (hne : a ≠ [42]) (m : Nat) (hm : (sp 45 a).length = m) (h2 : 2 < m) :
    Calls Tryd.prog 20 #[.string ⟨l.toArray⟩, .int .i64 lo, .int .i64 hi] w fun e w' => e = .returned (.tuple #[.int .u64 0, .bool false]) ∧ Below w.heap.size w w' := by
  have hq := not_star hne
  have d := fun w => Pieces_n a 45 m hm w hal
  rw [show (45 : UInt8).toNat = 45 from rfl] at d
  have c := Pieces_n l 47 n hn w hl
  rw [show (47 : UInt8).toNat = 47 from rfl] at c
  generalize ByteArray.mk l.toArray = s0 at *
  go_enter Tryd.func20, Tryd.ntmps20
  go_wp2_with fail
  refine c.mono ?_
  rintro e w1 ⟨g, cap, rfl, hcell, hg, hb1⟩
  clear c
  have c0 := hcell 0 (by omega)
  rw [ha] at c0
  clear hcell
  generalize ByteArray.mk a.toArray = s1 at *
  go_wp2_with fail
  refine (d _).mono ?_
  rintro e w2 ⟨g2, cap2, rfl, hcell2, hg2, hb2⟩
  clear d
  have hB2 := then_below hb1 hb2
  go_wp2_with fail
  go_ret2
  exact ⟨rfl, hB2⟩

set_option maxHeartbeats 2000000 in
theorem item_x_none (lo hi : Nat) (_hlh : lo ≤ hi) (_hh : hi < 64) (l : List UInt8) (hl : l.length ≤ 200) (w : World) (n : Nat) (hn : (sp 47 l).length = n) (hn1 : 1 ≤ n) (hn2 : n ≤ 2) (a : List UInt8) (ha : (sp 47 l).getD 0 [] = a) (hal : a.length ≤ 200) (hne : a ≠ [42]) (m : Nat) (hm : (sp 45 a).length = m) (hm1 : 1 ≤ m) (hm2 : m ≤ 2) (x : List UInt8) (hx : (sp 45 a).getD 0 [] = x) (hxl : x.length ≤ 200) (hf : numO x = none) :
    Calls Tryd.prog 20 #[.string ⟨l.toArray⟩, .int .i64 lo, .int .i64 hi] w fun e w' => e = .returned (.tuple #[.int .u64 0, .bool false]) ∧ Below w.heap.size w w' := by
  have t0 := fun w => twoDigits_no x w hxl hf
  have hq := not_star hne
  have d := fun w => Pieces_n a 45 m hm w hal
  rw [show (45 : UInt8).toNat = 45 from rfl] at d
  have c := Pieces_n l 47 n hn w hl
  rw [show (47 : UInt8).toNat = 47 from rfl] at c
  generalize ByteArray.mk l.toArray = s0 at *
  go_enter Tryd.func20, Tryd.ntmps20
  go_wp2_with fail
  refine c.mono ?_
  rintro e w1 ⟨g, cap, rfl, hcell, hg, hb1⟩
  clear c
  have c0 := hcell 0 (by omega)
  rw [ha] at c0
  clear hcell
  generalize ByteArray.mk a.toArray = s1 at *
  go_wp2_with fail
  refine (d _).mono ?_
  rintro e w2 ⟨g2, cap2, rfl, hcell2, hg2, hb2⟩
  clear d
  have hB2 := then_below hb1 hb2
  have d0 := hcell2 0 (by omega)
  rw [hx] at d0
  clear hcell2
  go_wp2_with fail
  refine (t0 _).mono ?_
  rintro e w' ⟨v, rfl, rfl⟩
  go_wp2_with fail
  go_ret2
  exact ⟨rfl, hB2⟩

set_option maxHeartbeats 2000000 in
theorem item_x_low (lo hi : Nat) (_hlh : lo ≤ hi) (_hh : hi < 64) (l : List UInt8) (hl : l.length ≤ 200) (w : World) (n : Nat) (hn : (sp 47 l).length = n) (hn1 : 1 ≤ n) (hn2 : n ≤ 2) (a : List UInt8) (ha : (sp 47 l).getD 0 [] = a) (hal : a.length ≤ 200) (hne : a ≠ [42]) (m : Nat) (hm : (sp 45 a).length = m) (hm1 : 1 ≤ m) (hm2 : m ≤ 2) (x : List UInt8) (hx : (sp 45 a).getD 0 [] = x) (hxl : x.length ≤ 200) (f : Int) (hf : numO x = some f) (hlow : f < lo) :
    Calls Tryd.prog 20 #[.string ⟨l.toArray⟩, .int .i64 lo, .int .i64 hi] w fun e w' => e = .returned (.tuple #[.int .u64 0, .bool false]) ∧ Below w.heap.size w w' := by
  have t0 := fun w => twoDigits_yes x f w hxl hf
  have gf := num_ge hf
  have HF : Hid (numO x = some f) := hf
  clear hf
  have hq := not_star hne
  have d := fun w => Pieces_n a 45 m hm w hal
  rw [show (45 : UInt8).toNat = 45 from rfl] at d
  have c := Pieces_n l 47 n hn w hl
  rw [show (47 : UInt8).toNat = 47 from rfl] at c
  generalize ByteArray.mk l.toArray = s0 at *
  go_enter Tryd.func20, Tryd.ntmps20
  go_wp2_with fail
  refine c.mono ?_
  rintro e w1 ⟨g, cap, rfl, hcell, hg, hb1⟩
  clear c
  have c0 := hcell 0 (by omega)
  rw [ha] at c0
  clear hcell
  generalize ByteArray.mk a.toArray = s1 at *
  go_wp2_with fail
  refine (d _).mono ?_
  rintro e w2 ⟨g2, cap2, rfl, hcell2, hg2, hb2⟩
  clear d
  have hB2 := then_below hb1 hb2
  have d0 := hcell2 0 (by omega)
  rw [hx] at d0
  clear hcell2
  go_wp2_with fail
  refine (t0 _).mono ?_
  rintro e w' ⟨rfl, rfl⟩
  go_wp2_with fail
  go_ret2
  exact ⟨rfl, hB2⟩

set_option maxHeartbeats 2000000 in
theorem item_x_high (lo hi : Nat) (_hlh : lo ≤ hi) (_hh : hi < 64) (l : List UInt8) (hl : l.length ≤ 200) (w : World) (n : Nat) (hn : (sp 47 l).length = n) (hn1 : 1 ≤ n) (hn2 : n ≤ 2) (a : List UInt8) (ha : (sp 47 l).getD 0 [] = a) (hal : a.length ≤ 200) (hne : a ≠ [42]) (m : Nat) (hm : (sp 45 a).length = m) (hm1 : 1 ≤ m) (hm2 : m ≤ 2) (x : List UInt8) (hx : (sp 45 a).getD 0 [] = x) (hxl : x.length ≤ 200) (f : Int) (hf : numO x = some f) (hlow : ¬ f < lo) (hhig : hi < f) :
    Calls Tryd.prog 20 #[.string ⟨l.toArray⟩, .int .i64 lo, .int .i64 hi] w fun e w' => e = .returned (.tuple #[.int .u64 0, .bool false]) ∧ Below w.heap.size w w' := by
  have t0 := fun w => twoDigits_yes x f w hxl hf
  have gf := num_ge hf
  have HF : Hid (numO x = some f) := hf
  clear hf
  have hq := not_star hne
  have d := fun w => Pieces_n a 45 m hm w hal
  rw [show (45 : UInt8).toNat = 45 from rfl] at d
  have c := Pieces_n l 47 n hn w hl
  rw [show (47 : UInt8).toNat = 47 from rfl] at c
  generalize ByteArray.mk l.toArray = s0 at *
  go_enter Tryd.func20, Tryd.ntmps20
  go_wp2_with fail
  refine c.mono ?_
  rintro e w1 ⟨g, cap, rfl, hcell, hg, hb1⟩
  clear c
  have c0 := hcell 0 (by omega)
  rw [ha] at c0
  clear hcell
  generalize ByteArray.mk a.toArray = s1 at *
  go_wp2_with fail
  refine (d _).mono ?_
  rintro e w2 ⟨g2, cap2, rfl, hcell2, hg2, hb2⟩
  clear d
  have hB2 := then_below hb1 hb2
  have d0 := hcell2 0 (by omega)
  rw [hx] at d0
  clear hcell2
  go_wp2_with fail
  refine (t0 _).mono ?_
  rintro e w' ⟨rfl, rfl⟩
  go_wp2_with fail
  go_ret2
  exact ⟨rfl, hB2⟩

set_option maxHeartbeats 2000000 in
theorem item_y_none (lo hi : Nat) (_hlh : lo ≤ hi) (_hh : hi < 64) (l : List UInt8) (hl : l.length ≤ 200) (w : World) (n : Nat) (hn : (sp 47 l).length = n) (hn1 : 1 ≤ n) (hn2 : n ≤ 2) (a : List UInt8) (ha : (sp 47 l).getD 0 [] = a) (hal : a.length ≤ 200) (hne : a ≠ [42]) (hm : (sp 45 a).length = 2) (x : List UInt8) (hx : (sp 45 a).getD 0 [] = x) (hxl : x.length ≤ 200) (y : List UInt8) (hy : (sp 45 a).getD 1 [] = y) (hyl : y.length ≤ 200) (f : Int) (hf : numO x = some f) (hlow : ¬ f < lo) (hhig : ¬ hi < f) (ht : numO y = none) :
    Calls Tryd.prog 20 #[.string ⟨l.toArray⟩, .int .i64 lo, .int .i64 hi] w fun e w' => e = .returned (.tuple #[.int .u64 0, .bool false]) ∧ Below w.heap.size w w' := by
  have t0 := fun w => twoDigits_yes x f w hxl hf
  have gf := num_ge hf
  have HF : Hid (numO x = some f) := hf
  clear hf
  have t1 := fun w => twoDigits_no y w hyl ht
  have hq := not_star hne
  have d := fun w => Pieces_n a 45 2 hm w hal
  rw [show (45 : UInt8).toNat = 45 from rfl] at d
  have c := Pieces_n l 47 n hn w hl
  rw [show (47 : UInt8).toNat = 47 from rfl] at c
  generalize ByteArray.mk l.toArray = s0 at *
  go_enter Tryd.func20, Tryd.ntmps20
  go_wp2_with fail
  refine c.mono ?_
  rintro e w1 ⟨g, cap, rfl, hcell, hg, hb1⟩
  clear c
  have c0 := hcell 0 (by omega)
  rw [ha] at c0
  clear hcell
  generalize ByteArray.mk a.toArray = s1 at *
  go_wp2_with fail
  refine (d _).mono ?_
  rintro e w2 ⟨g2, cap2, rfl, hcell2, hg2, hb2⟩
  clear d
  have hB2 := then_below hb1 hb2
  have d0 := hcell2 0 (by omega)
  rw [hx] at d0
  have d1 := hcell2 1 (by omega)
  rw [hy] at d1
  clear hcell2
  go_wp2_with fail
  refine (t0 _).mono ?_
  rintro e w' ⟨rfl, rfl⟩
  go_wp2_with fail
  refine (t1 _).mono ?_
  rintro e w' ⟨v, rfl, rfl⟩
  go_wp2_with fail
  go_ret2
  exact ⟨rfl, hB2⟩

set_option maxHeartbeats 2000000 in
theorem item_y_low (lo hi : Nat) (_hlh : lo ≤ hi) (_hh : hi < 64) (l : List UInt8) (hl : l.length ≤ 200) (w : World) (n : Nat) (hn : (sp 47 l).length = n) (hn1 : 1 ≤ n) (hn2 : n ≤ 2) (a : List UInt8) (ha : (sp 47 l).getD 0 [] = a) (hal : a.length ≤ 200) (hne : a ≠ [42]) (hm : (sp 45 a).length = 2) (x : List UInt8) (hx : (sp 45 a).getD 0 [] = x) (hxl : x.length ≤ 200) (y : List UInt8) (hy : (sp 45 a).getD 1 [] = y) (hyl : y.length ≤ 200) (f : Int) (hf : numO x = some f) (hlow : ¬ f < lo) (hhig : ¬ hi < f) (t : Int) (ht : numO y = some t) (hlt : t < f) :
    Calls Tryd.prog 20 #[.string ⟨l.toArray⟩, .int .i64 lo, .int .i64 hi] w fun e w' => e = .returned (.tuple #[.int .u64 0, .bool false]) ∧ Below w.heap.size w w' := by
  have t0 := fun w => twoDigits_yes x f w hxl hf
  have gf := num_ge hf
  have HF : Hid (numO x = some f) := hf
  clear hf
  have t1 := fun w => twoDigits_yes y t w hyl ht
  have gt := num_ge ht
  have HT : Hid (numO y = some t) := ht
  clear ht
  have hq := not_star hne
  have d := fun w => Pieces_n a 45 2 hm w hal
  rw [show (45 : UInt8).toNat = 45 from rfl] at d
  have c := Pieces_n l 47 n hn w hl
  rw [show (47 : UInt8).toNat = 47 from rfl] at c
  generalize ByteArray.mk l.toArray = s0 at *
  go_enter Tryd.func20, Tryd.ntmps20
  go_wp2_with fail
  refine c.mono ?_
  rintro e w1 ⟨g, cap, rfl, hcell, hg, hb1⟩
  clear c
  have c0 := hcell 0 (by omega)
  rw [ha] at c0
  clear hcell
  generalize ByteArray.mk a.toArray = s1 at *
  go_wp2_with fail
  refine (d _).mono ?_
  rintro e w2 ⟨g2, cap2, rfl, hcell2, hg2, hb2⟩
  clear d
  have hB2 := then_below hb1 hb2
  have d0 := hcell2 0 (by omega)
  rw [hx] at d0
  have d1 := hcell2 1 (by omega)
  rw [hy] at d1
  clear hcell2
  go_wp2_with fail
  refine (t0 _).mono ?_
  rintro e w' ⟨rfl, rfl⟩
  go_wp2_with fail
  refine (t1 _).mono ?_
  rintro e w' ⟨rfl, rfl⟩
  go_wp2_with fail
  go_ret2
  exact ⟨rfl, hB2⟩

set_option maxHeartbeats 2000000 in
theorem item_y_high (lo hi : Nat) (_hlh : lo ≤ hi) (_hh : hi < 64) (l : List UInt8) (hl : l.length ≤ 200) (w : World) (n : Nat) (hn : (sp 47 l).length = n) (hn1 : 1 ≤ n) (hn2 : n ≤ 2) (a : List UInt8) (ha : (sp 47 l).getD 0 [] = a) (hal : a.length ≤ 200) (hne : a ≠ [42]) (hm : (sp 45 a).length = 2) (x : List UInt8) (hx : (sp 45 a).getD 0 [] = x) (hxl : x.length ≤ 200) (y : List UInt8) (hy : (sp 45 a).getD 1 [] = y) (hyl : y.length ≤ 200) (f : Int) (hf : numO x = some f) (hlow : ¬ f < lo) (hhig : ¬ hi < f) (t : Int) (ht : numO y = some t) (hlt : ¬ t < f) (hht : hi < t) :
    Calls Tryd.prog 20 #[.string ⟨l.toArray⟩, .int .i64 lo, .int .i64 hi] w fun e w' => e = .returned (.tuple #[.int .u64 0, .bool false]) ∧ Below w.heap.size w w' := by
  have t0 := fun w => twoDigits_yes x f w hxl hf
  have gf := num_ge hf
  have HF : Hid (numO x = some f) := hf
  clear hf
  have t1 := fun w => twoDigits_yes y t w hyl ht
  have gt := num_ge ht
  have HT : Hid (numO y = some t) := ht
  clear ht
  have hq := not_star hne
  have d := fun w => Pieces_n a 45 2 hm w hal
  rw [show (45 : UInt8).toNat = 45 from rfl] at d
  have c := Pieces_n l 47 n hn w hl
  rw [show (47 : UInt8).toNat = 47 from rfl] at c
  generalize ByteArray.mk l.toArray = s0 at *
  go_enter Tryd.func20, Tryd.ntmps20
  go_wp2_with fail
  refine c.mono ?_
  rintro e w1 ⟨g, cap, rfl, hcell, hg, hb1⟩
  clear c
  have c0 := hcell 0 (by omega)
  rw [ha] at c0
  clear hcell
  generalize ByteArray.mk a.toArray = s1 at *
  go_wp2_with fail
  refine (d _).mono ?_
  rintro e w2 ⟨g2, cap2, rfl, hcell2, hg2, hb2⟩
  clear d
  have hB2 := then_below hb1 hb2
  have d0 := hcell2 0 (by omega)
  rw [hx] at d0
  have d1 := hcell2 1 (by omega)
  rw [hy] at d1
  clear hcell2
  go_wp2_with fail
  refine (t0 _).mono ?_
  rintro e w' ⟨rfl, rfl⟩
  go_wp2_with fail
  refine (t1 _).mono ?_
  rintro e w' ⟨rfl, rfl⟩
  go_wp2_with fail
  go_ret2
  exact ⟨rfl, hB2⟩

set_option maxHeartbeats 2000000 in
theorem item_star_one (lo hi : Nat) (_hlh : lo ≤ hi) (_hh : hi < 64) (l : List UInt8) (hl : l.length ≤ 200) (w : World) (hn : (sp 47 l).length = 1) (ha : (sp 47 l).getD 0 [] = [42]) :
    Calls Tryd.prog 20 #[.string ⟨l.toArray⟩, .int .i64 lo, .int .i64 hi] w fun e w' => e = .returned (.tuple #[.int .u64 (spn lo hi 1 : Nat), .bool true]) ∧ Below w.heap.size w w' := by
  have c := Pieces_n l 47 1 hn w hl
  rw [show (47 : UInt8).toNat = 47 from rfl] at c
  generalize ByteArray.mk l.toArray = s0 at *
  go_enter Tryd.func20, Tryd.ntmps20
  go_wp2_with fail
  refine c.mono ?_
  rintro e w1 ⟨g, cap, rfl, hcell, hg, hb1⟩
  clear c
  have c0 := hcell 0 (by omega)
  rw [ha] at c0
  clear hcell
  go_wp2_with fail
  go_loop [16, 17] (fun v i => ∃ q : Int, i = .int .i64 q ∧ (lo : Int) ≤ q ∧ q ≤ (hi : Int) + 1 ∧ v = .int .u64 (spn (lo : Int) (q - 1) 1 : Nat)) (fun _ i => (65 - intOf i).toNat)
  case atStart => exact ⟨(lo : Int), rfl, by omega, by omega, by rw [spn_start (by omega)]; rfl⟩
  case round =>
    obtain ⟨q, rfl, q1, q2, rfl⟩ := hrel
    by_cases hq2 : q ≤ (hi : Int)
    · have hlt := spn_lt (f := (lo : Int)) (t := q - 1) (s := 1) (by omega) (by omega)
      have HM : Hid ((q.toNat - ((lo : Int) : Int).toNat) % (1 : Int).toNat = 0) := Nat.mod_one _
      go_wp2_with fail
      go_round
      case rel => exact ⟨q + 1, by go_num, by omega, by omega, by rw [wrap_pow (by omega) (by omega), bits_or_u64_nat _ _ hlt (pow_lt (by omega) (by omega)), show q + 1 - 1 = q by omega, spn_add (by omega) q1 HM.out]⟩
      case measure => simp [intOf]; omega
    · have he : q - 1 = (hi : Int) := by omega
      have HE : Hid (q - 1 = (hi : Int)) := he
      clear he
      go_wp2_with fail
      go_ret2
      exact ⟨ret_ub (by rw [HE.out]), hb1⟩

set_option maxHeartbeats 2000000 in
theorem item_star_snone (lo hi : Nat) (_hlh : lo ≤ hi) (_hh : hi < 64) (l : List UInt8) (hl : l.length ≤ 200) (w : World) (hn : (sp 47 l).length = 2) (ha : (sp 47 l).getD 0 [] = [42]) (b : List UInt8) (hbb : (sp 47 l).getD 1 [] = b) (hbl : b.length ≤ 200) (hst : numO b = none) :
    Calls Tryd.prog 20 #[.string ⟨l.toArray⟩, .int .i64 lo, .int .i64 hi] w fun e w' => e = .returned (.tuple #[.int .u64 0, .bool false]) ∧ Below w.heap.size w w' := by
  have t2 := fun w => twoDigits_no b w hbl hst
  have c := Pieces_n l 47 2 hn w hl
  rw [show (47 : UInt8).toNat = 47 from rfl] at c
  generalize ByteArray.mk l.toArray = s0 at *
  go_enter Tryd.func20, Tryd.ntmps20
  go_wp2_with fail
  refine c.mono ?_
  rintro e w1 ⟨g, cap, rfl, hcell, hg, hb1⟩
  clear c
  have c0 := hcell 0 (by omega)
  rw [ha] at c0
  have c1 := hcell 1 (by omega)
  rw [hbb] at c1
  clear hcell
  go_wp2_with fail
  refine (t2 _).mono ?_
  rintro e w' ⟨v, rfl, rfl⟩
  go_wp2_with fail
  go_ret2
  exact ⟨rfl, hb1⟩

set_option maxHeartbeats 2000000 in
theorem item_star_szero (lo hi : Nat) (_hlh : lo ≤ hi) (_hh : hi < 64) (l : List UInt8) (hl : l.length ≤ 200) (w : World) (hn : (sp 47 l).length = 2) (ha : (sp 47 l).getD 0 [] = [42]) (b : List UInt8) (hbb : (sp 47 l).getD 1 [] = b) (hbl : b.length ≤ 200) (st : Int) (hst : numO b = some st) (hs1 : st < 1) :
    Calls Tryd.prog 20 #[.string ⟨l.toArray⟩, .int .i64 lo, .int .i64 hi] w fun e w' => e = .returned (.tuple #[.int .u64 0, .bool false]) ∧ Below w.heap.size w w' := by
  have t2 := fun w => twoDigits_yes b st w hbl hst
  have gs := num_ge hst
  have HST : Hid (numO b = some st) := hst
  clear hst
  have c := Pieces_n l 47 2 hn w hl
  rw [show (47 : UInt8).toNat = 47 from rfl] at c
  generalize ByteArray.mk l.toArray = s0 at *
  go_enter Tryd.func20, Tryd.ntmps20
  go_wp2_with fail
  refine c.mono ?_
  rintro e w1 ⟨g, cap, rfl, hcell, hg, hb1⟩
  clear c
  have c0 := hcell 0 (by omega)
  rw [ha] at c0
  have c1 := hcell 1 (by omega)
  rw [hbb] at c1
  clear hcell
  go_wp2_with fail
  refine (t2 _).mono ?_
  rintro e w' ⟨rfl, rfl⟩
  go_wp2_with fail
  go_ret2
  exact ⟨rfl, hb1⟩

set_option maxHeartbeats 2000000 in
theorem item_star_step (lo hi : Nat) (_hlh : lo ≤ hi) (_hh : hi < 64) (l : List UInt8) (hl : l.length ≤ 200) (w : World) (hn : (sp 47 l).length = 2) (ha : (sp 47 l).getD 0 [] = [42]) (b : List UInt8) (hbb : (sp 47 l).getD 1 [] = b) (hbl : b.length ≤ 200) (st : Int) (hst : numO b = some st) (hs1 : 1 ≤ st) :
    Calls Tryd.prog 20 #[.string ⟨l.toArray⟩, .int .i64 lo, .int .i64 hi] w fun e w' => e = .returned (.tuple #[.int .u64 (spn lo hi st : Nat), .bool true]) ∧ Below w.heap.size w w' := by
  have t2 := fun w => twoDigits_yes b st w hbl hst
  have gs := num_ge hst
  have HST : Hid (numO b = some st) := hst
  clear hst
  have c := Pieces_n l 47 2 hn w hl
  rw [show (47 : UInt8).toNat = 47 from rfl] at c
  generalize ByteArray.mk l.toArray = s0 at *
  go_enter Tryd.func20, Tryd.ntmps20
  go_wp2_with fail
  refine c.mono ?_
  rintro e w1 ⟨g, cap, rfl, hcell, hg, hb1⟩
  clear c
  have c0 := hcell 0 (by omega)
  rw [ha] at c0
  have c1 := hcell 1 (by omega)
  rw [hbb] at c1
  clear hcell
  go_wp2_with fail
  refine (t2 _).mono ?_
  rintro e w' ⟨rfl, rfl⟩
  go_wp2_with fail
  go_loop [16, 17] (fun v i => ∃ q : Int, i = .int .i64 q ∧ (lo : Int) ≤ q ∧ q ≤ (hi : Int) + 1 ∧ v = .int .u64 (spn (lo : Int) (q - 1) st : Nat)) (fun _ i => (65 - intOf i).toNat)
  case atStart => exact ⟨(lo : Int), rfl, by omega, by omega, by rw [spn_start (by omega)]; rfl⟩
  case round =>
    obtain ⟨q, rfl, q1, q2, rfl⟩ := hrel
    by_cases hq2 : q ≤ (hi : Int)
    · have hlt := spn_lt (f := (lo : Int)) (t := q - 1) (s := st) (by omega) (by omega)
      by_cases hmod : (q - (lo : Int)) % st = 0
      · have HM : Hid ((q.toNat - ((lo : Int) : Int).toNat) % (st : Int).toNat = 0) := (mod_cast' (by omega) q1 (by omega)).1 hmod
        go_wp2_with fail
        go_round
        case rel => exact ⟨q + 1, by go_num, by omega, by omega, by rw [wrap_pow (by omega) (by omega), bits_or_u64_nat _ _ hlt (pow_lt (by omega) (by omega)), show q + 1 - 1 = q by omega, spn_add (by omega) q1 HM.out]⟩
        case measure => simp [intOf]; omega
      · have HM : Hid (¬ (q.toNat - ((lo : Int) : Int).toNat) % (st : Int).toNat = 0) := fun h => hmod ((mod_cast' (by omega) q1 (by omega)).2 h)
        have hmb : ((q - (lo : Int)) % st == 0) = false := by simpa using hmod
        clear hmod
        go_wp2_with fail
        go_round
        case rel => exact ⟨q + 1, by go_num, by omega, by omega, by rw [show q + 1 - 1 = q by omega, spn_skip (by omega) HM.out]⟩
        case measure => simp [intOf]; omega
    · have he : q - 1 = (hi : Int) := by omega
      have HE : Hid (q - 1 = (hi : Int)) := he
      clear he
      go_wp2_with fail
      go_ret2
      exact ⟨ret_ub (by rw [HE.out]), hb1⟩

set_option maxHeartbeats 2000000 in
theorem item_one_one (lo hi : Nat) (_hlh : lo ≤ hi) (_hh : hi < 64) (l : List UInt8) (hl : l.length ≤ 200) (w : World) (hn : (sp 47 l).length = 1) (a : List UInt8) (ha : (sp 47 l).getD 0 [] = a) (hal : a.length ≤ 200) (hne : a ≠ [42]) (hm : (sp 45 a).length = 1) (x : List UInt8) (hx : (sp 45 a).getD 0 [] = x) (hxl : x.length ≤ 200) (f : Int) (hf : numO x = some f) (hlow : ¬ f < lo) (hhig : ¬ hi < f) :
    Calls Tryd.prog 20 #[.string ⟨l.toArray⟩, .int .i64 lo, .int .i64 hi] w fun e w' => e = .returned (.tuple #[.int .u64 (spn f f 1 : Nat), .bool true]) ∧ Below w.heap.size w w' := by
  have t0 := fun w => twoDigits_yes x f w hxl hf
  have gf := num_ge hf
  have HF : Hid (numO x = some f) := hf
  clear hf
  have hq := not_star hne
  have d := fun w => Pieces_n a 45 1 hm w hal
  rw [show (45 : UInt8).toNat = 45 from rfl] at d
  have c := Pieces_n l 47 1 hn w hl
  rw [show (47 : UInt8).toNat = 47 from rfl] at c
  generalize ByteArray.mk l.toArray = s0 at *
  go_enter Tryd.func20, Tryd.ntmps20
  go_wp2_with fail
  refine c.mono ?_
  rintro e w1 ⟨g, cap, rfl, hcell, hg, hb1⟩
  clear c
  have c0 := hcell 0 (by omega)
  rw [ha] at c0
  clear hcell
  generalize ByteArray.mk a.toArray = s1 at *
  go_wp2_with fail
  refine (d _).mono ?_
  rintro e w2 ⟨g2, cap2, rfl, hcell2, hg2, hb2⟩
  clear d
  have hB2 := then_below hb1 hb2
  have d0 := hcell2 0 (by omega)
  rw [hx] at d0
  clear hcell2
  go_wp2_with fail
  refine (t0 _).mono ?_
  rintro e w' ⟨rfl, rfl⟩
  go_wp2_with fail
  go_loop [16, 17] (fun v i => ∃ q : Int, i = .int .i64 q ∧ f ≤ q ∧ q ≤ f + 1 ∧ v = .int .u64 (spn f (q - 1) 1 : Nat)) (fun _ i => (65 - intOf i).toNat)
  case atStart => exact ⟨f, rfl, by omega, by omega, by rw [spn_start (by omega)]; rfl⟩
  case round =>
    obtain ⟨q, rfl, q1, q2, rfl⟩ := hrel
    by_cases hq2 : q ≤ f
    · have hlt := spn_lt (f := f) (t := q - 1) (s := 1) (by omega) (by omega)
      have HM : Hid ((q.toNat - (f : Int).toNat) % (1 : Int).toNat = 0) := Nat.mod_one _
      go_wp2_with fail
      go_round
      case rel => exact ⟨q + 1, by go_num, by omega, by omega, by rw [wrap_pow (by omega) (by omega), bits_or_u64_nat _ _ hlt (pow_lt (by omega) (by omega)), show q + 1 - 1 = q by omega, spn_add (by omega) q1 HM.out]⟩
      case measure => simp [intOf]; omega
    · have he : q - 1 = f := by omega
      have HE : Hid (q - 1 = f) := he
      clear he
      go_wp2_with fail
      go_ret2
      exact ⟨ret_ub (by rw [HE.out]), hB2⟩

set_option maxHeartbeats 2000000 in
theorem item_one_snone (lo hi : Nat) (_hlh : lo ≤ hi) (_hh : hi < 64) (l : List UInt8) (hl : l.length ≤ 200) (w : World) (hn : (sp 47 l).length = 2) (a : List UInt8) (ha : (sp 47 l).getD 0 [] = a) (hal : a.length ≤ 200) (hne : a ≠ [42]) (hm : (sp 45 a).length = 1) (x : List UInt8) (hx : (sp 45 a).getD 0 [] = x) (hxl : x.length ≤ 200) (f : Int) (hf : numO x = some f) (hlow : ¬ f < lo) (hhig : ¬ hi < f) (b : List UInt8) (hbb : (sp 47 l).getD 1 [] = b) (hbl : b.length ≤ 200) (hst : numO b = none) :
    Calls Tryd.prog 20 #[.string ⟨l.toArray⟩, .int .i64 lo, .int .i64 hi] w fun e w' => e = .returned (.tuple #[.int .u64 0, .bool false]) ∧ Below w.heap.size w w' := by
  have t0 := fun w => twoDigits_yes x f w hxl hf
  have gf := num_ge hf
  have HF : Hid (numO x = some f) := hf
  clear hf
  have t2 := fun w => twoDigits_no b w hbl hst
  have hq := not_star hne
  have d := fun w => Pieces_n a 45 1 hm w hal
  rw [show (45 : UInt8).toNat = 45 from rfl] at d
  have c := Pieces_n l 47 2 hn w hl
  rw [show (47 : UInt8).toNat = 47 from rfl] at c
  generalize ByteArray.mk l.toArray = s0 at *
  go_enter Tryd.func20, Tryd.ntmps20
  go_wp2_with fail
  refine c.mono ?_
  rintro e w1 ⟨g, cap, rfl, hcell, hg, hb1⟩
  clear c
  have c0 := hcell 0 (by omega)
  rw [ha] at c0
  have c1 := hcell 1 (by omega)
  rw [hbb] at c1
  clear hcell
  generalize ByteArray.mk a.toArray = s1 at *
  go_wp2_with fail
  refine (d _).mono ?_
  rintro e w2 ⟨g2, cap2, rfl, hcell2, hg2, hb2⟩
  clear d
  have hB2 := then_below hb1 hb2
  have c1' : w2.cell? ⟨g, 1, none⟩ = some (.string ⟨b.toArray⟩) := (hb2.cell (p := ⟨g, 1, none⟩) hg).trans c1
  clear c1
  have d0 := hcell2 0 (by omega)
  rw [hx] at d0
  clear hcell2
  go_wp2_with fail
  refine (t0 _).mono ?_
  rintro e w' ⟨rfl, rfl⟩
  go_wp2_with fail
  refine (t2 _).mono ?_
  rintro e w' ⟨v, rfl, rfl⟩
  go_wp2_with fail
  go_ret2
  exact ⟨rfl, hB2⟩

set_option maxHeartbeats 2000000 in
theorem item_one_szero (lo hi : Nat) (_hlh : lo ≤ hi) (_hh : hi < 64) (l : List UInt8) (hl : l.length ≤ 200) (w : World) (hn : (sp 47 l).length = 2) (a : List UInt8) (ha : (sp 47 l).getD 0 [] = a) (hal : a.length ≤ 200) (hne : a ≠ [42]) (hm : (sp 45 a).length = 1) (x : List UInt8) (hx : (sp 45 a).getD 0 [] = x) (hxl : x.length ≤ 200) (f : Int) (hf : numO x = some f) (hlow : ¬ f < lo) (hhig : ¬ hi < f) (b : List UInt8) (hbb : (sp 47 l).getD 1 [] = b) (hbl : b.length ≤ 200) (st : Int) (hst : numO b = some st) (hs1 : st < 1) :
    Calls Tryd.prog 20 #[.string ⟨l.toArray⟩, .int .i64 lo, .int .i64 hi] w fun e w' => e = .returned (.tuple #[.int .u64 0, .bool false]) ∧ Below w.heap.size w w' := by
  have t0 := fun w => twoDigits_yes x f w hxl hf
  have gf := num_ge hf
  have HF : Hid (numO x = some f) := hf
  clear hf
  have t2 := fun w => twoDigits_yes b st w hbl hst
  have gs := num_ge hst
  have HST : Hid (numO b = some st) := hst
  clear hst
  have hq := not_star hne
  have d := fun w => Pieces_n a 45 1 hm w hal
  rw [show (45 : UInt8).toNat = 45 from rfl] at d
  have c := Pieces_n l 47 2 hn w hl
  rw [show (47 : UInt8).toNat = 47 from rfl] at c
  generalize ByteArray.mk l.toArray = s0 at *
  go_enter Tryd.func20, Tryd.ntmps20
  go_wp2_with fail
  refine c.mono ?_
  rintro e w1 ⟨g, cap, rfl, hcell, hg, hb1⟩
  clear c
  have c0 := hcell 0 (by omega)
  rw [ha] at c0
  have c1 := hcell 1 (by omega)
  rw [hbb] at c1
  clear hcell
  generalize ByteArray.mk a.toArray = s1 at *
  go_wp2_with fail
  refine (d _).mono ?_
  rintro e w2 ⟨g2, cap2, rfl, hcell2, hg2, hb2⟩
  clear d
  have hB2 := then_below hb1 hb2
  have c1' : w2.cell? ⟨g, 1, none⟩ = some (.string ⟨b.toArray⟩) := (hb2.cell (p := ⟨g, 1, none⟩) hg).trans c1
  clear c1
  have d0 := hcell2 0 (by omega)
  rw [hx] at d0
  clear hcell2
  go_wp2_with fail
  refine (t0 _).mono ?_
  rintro e w' ⟨rfl, rfl⟩
  go_wp2_with fail
  refine (t2 _).mono ?_
  rintro e w' ⟨rfl, rfl⟩
  go_wp2_with fail
  go_ret2
  exact ⟨rfl, hB2⟩

set_option maxHeartbeats 2000000 in
theorem item_one_step (lo hi : Nat) (_hlh : lo ≤ hi) (_hh : hi < 64) (l : List UInt8) (hl : l.length ≤ 200) (w : World) (hn : (sp 47 l).length = 2) (a : List UInt8) (ha : (sp 47 l).getD 0 [] = a) (hal : a.length ≤ 200) (hne : a ≠ [42]) (hm : (sp 45 a).length = 1) (x : List UInt8) (hx : (sp 45 a).getD 0 [] = x) (hxl : x.length ≤ 200) (f : Int) (hf : numO x = some f) (hlow : ¬ f < lo) (hhig : ¬ hi < f) (b : List UInt8) (hbb : (sp 47 l).getD 1 [] = b) (hbl : b.length ≤ 200) (st : Int) (hst : numO b = some st) (hs1 : 1 ≤ st) :
    Calls Tryd.prog 20 #[.string ⟨l.toArray⟩, .int .i64 lo, .int .i64 hi] w fun e w' => e = .returned (.tuple #[.int .u64 0, .bool false]) ∧ Below w.heap.size w w' := by
  have t0 := fun w => twoDigits_yes x f w hxl hf
  have gf := num_ge hf
  have HF : Hid (numO x = some f) := hf
  clear hf
  have t2 := fun w => twoDigits_yes b st w hbl hst
  have gs := num_ge hst
  have HST : Hid (numO b = some st) := hst
  clear hst
  have hq := not_star hne
  have d := fun w => Pieces_n a 45 1 hm w hal
  rw [show (45 : UInt8).toNat = 45 from rfl] at d
  have c := Pieces_n l 47 2 hn w hl
  rw [show (47 : UInt8).toNat = 47 from rfl] at c
  generalize ByteArray.mk l.toArray = s0 at *
  go_enter Tryd.func20, Tryd.ntmps20
  go_wp2_with fail
  refine c.mono ?_
  rintro e w1 ⟨g, cap, rfl, hcell, hg, hb1⟩
  clear c
  have c0 := hcell 0 (by omega)
  rw [ha] at c0
  have c1 := hcell 1 (by omega)
  rw [hbb] at c1
  clear hcell
  generalize ByteArray.mk a.toArray = s1 at *
  go_wp2_with fail
  refine (d _).mono ?_
  rintro e w2 ⟨g2, cap2, rfl, hcell2, hg2, hb2⟩
  clear d
  have hB2 := then_below hb1 hb2
  have c1' : w2.cell? ⟨g, 1, none⟩ = some (.string ⟨b.toArray⟩) := (hb2.cell (p := ⟨g, 1, none⟩) hg).trans c1
  clear c1
  have d0 := hcell2 0 (by omega)
  rw [hx] at d0
  clear hcell2
  go_wp2_with fail
  refine (t0 _).mono ?_
  rintro e w' ⟨rfl, rfl⟩
  go_wp2_with fail
  refine (t2 _).mono ?_
  rintro e w' ⟨rfl, rfl⟩
  go_wp2_with fail
  go_ret2
  exact ⟨rfl, hB2⟩

set_option maxHeartbeats 2000000 in
theorem item_two_one (lo hi : Nat) (_hlh : lo ≤ hi) (_hh : hi < 64) (l : List UInt8) (hl : l.length ≤ 200) (w : World) (hn : (sp 47 l).length = 1) (a : List UInt8) (ha : (sp 47 l).getD 0 [] = a) (hal : a.length ≤ 200) (hne : a ≠ [42]) (hm : (sp 45 a).length = 2) (x : List UInt8) (hx : (sp 45 a).getD 0 [] = x) (hxl : x.length ≤ 200) (y : List UInt8) (hy : (sp 45 a).getD 1 [] = y) (hyl : y.length ≤ 200) (f : Int) (hf : numO x = some f) (hlow : ¬ f < lo) (hhig : ¬ hi < f) (t : Int) (ht : numO y = some t) (hlt : ¬ t < f) (hht : ¬ hi < t) :
    Calls Tryd.prog 20 #[.string ⟨l.toArray⟩, .int .i64 lo, .int .i64 hi] w fun e w' => e = .returned (.tuple #[.int .u64 (spn f t 1 : Nat), .bool true]) ∧ Below w.heap.size w w' := by
  have t0 := fun w => twoDigits_yes x f w hxl hf
  have gf := num_ge hf
  have HF : Hid (numO x = some f) := hf
  clear hf
  have t1 := fun w => twoDigits_yes y t w hyl ht
  have gt := num_ge ht
  have HT : Hid (numO y = some t) := ht
  clear ht
  have hq := not_star hne
  have d := fun w => Pieces_n a 45 2 hm w hal
  rw [show (45 : UInt8).toNat = 45 from rfl] at d
  have c := Pieces_n l 47 1 hn w hl
  rw [show (47 : UInt8).toNat = 47 from rfl] at c
  generalize ByteArray.mk l.toArray = s0 at *
  go_enter Tryd.func20, Tryd.ntmps20
  go_wp2_with fail
  refine c.mono ?_
  rintro e w1 ⟨g, cap, rfl, hcell, hg, hb1⟩
  clear c
  have c0 := hcell 0 (by omega)
  rw [ha] at c0
  clear hcell
  generalize ByteArray.mk a.toArray = s1 at *
  go_wp2_with fail
  refine (d _).mono ?_
  rintro e w2 ⟨g2, cap2, rfl, hcell2, hg2, hb2⟩
  clear d
  have hB2 := then_below hb1 hb2
  have d0 := hcell2 0 (by omega)
  rw [hx] at d0
  have d1 := hcell2 1 (by omega)
  rw [hy] at d1
  clear hcell2
  go_wp2_with fail
  refine (t0 _).mono ?_
  rintro e w' ⟨rfl, rfl⟩
  go_wp2_with fail
  refine (t1 _).mono ?_
  rintro e w' ⟨rfl, rfl⟩
  go_wp2_with fail
  go_loop [16, 17] (fun v i => ∃ q : Int, i = .int .i64 q ∧ f ≤ q ∧ q ≤ t + 1 ∧ v = .int .u64 (spn f (q - 1) 1 : Nat)) (fun _ i => (65 - intOf i).toNat)
  case atStart => exact ⟨f, rfl, by omega, by omega, by rw [spn_start (by omega)]; rfl⟩
  case round =>
    obtain ⟨q, rfl, q1, q2, rfl⟩ := hrel
    by_cases hq2 : q ≤ t
    · have hlt := spn_lt (f := f) (t := q - 1) (s := 1) (by omega) (by omega)
      have HM : Hid ((q.toNat - (f : Int).toNat) % (1 : Int).toNat = 0) := Nat.mod_one _
      go_wp2_with fail
      go_round
      case rel => exact ⟨q + 1, by go_num, by omega, by omega, by rw [wrap_pow (by omega) (by omega), bits_or_u64_nat _ _ hlt (pow_lt (by omega) (by omega)), show q + 1 - 1 = q by omega, spn_add (by omega) q1 HM.out]⟩
      case measure => simp [intOf]; omega
    · have he : q - 1 = t := by omega
      have HE : Hid (q - 1 = t) := he
      clear he
      go_wp2_with fail
      go_ret2
      exact ⟨ret_ub (by rw [HE.out]), hB2⟩

set_option maxHeartbeats 2000000 in
theorem item_two_snone (lo hi : Nat) (_hlh : lo ≤ hi) (_hh : hi < 64) (l : List UInt8) (hl : l.length ≤ 200) (w : World) (hn : (sp 47 l).length = 2) (a : List UInt8) (ha : (sp 47 l).getD 0 [] = a) (hal : a.length ≤ 200) (hne : a ≠ [42]) (hm : (sp 45 a).length = 2) (x : List UInt8) (hx : (sp 45 a).getD 0 [] = x) (hxl : x.length ≤ 200) (y : List UInt8) (hy : (sp 45 a).getD 1 [] = y) (hyl : y.length ≤ 200) (f : Int) (hf : numO x = some f) (hlow : ¬ f < lo) (hhig : ¬ hi < f) (t : Int) (ht : numO y = some t) (hlt : ¬ t < f) (hht : ¬ hi < t) (b : List UInt8) (hbb : (sp 47 l).getD 1 [] = b) (hbl : b.length ≤ 200) (hst : numO b = none) :
    Calls Tryd.prog 20 #[.string ⟨l.toArray⟩, .int .i64 lo, .int .i64 hi] w fun e w' => e = .returned (.tuple #[.int .u64 0, .bool false]) ∧ Below w.heap.size w w' := by
  have t0 := fun w => twoDigits_yes x f w hxl hf
  have gf := num_ge hf
  have HF : Hid (numO x = some f) := hf
  clear hf
  have t1 := fun w => twoDigits_yes y t w hyl ht
  have gt := num_ge ht
  have HT : Hid (numO y = some t) := ht
  clear ht
  have t2 := fun w => twoDigits_no b w hbl hst
  have hq := not_star hne
  have d := fun w => Pieces_n a 45 2 hm w hal
  rw [show (45 : UInt8).toNat = 45 from rfl] at d
  have c := Pieces_n l 47 2 hn w hl
  rw [show (47 : UInt8).toNat = 47 from rfl] at c
  generalize ByteArray.mk l.toArray = s0 at *
  go_enter Tryd.func20, Tryd.ntmps20
  go_wp2_with fail
  refine c.mono ?_
  rintro e w1 ⟨g, cap, rfl, hcell, hg, hb1⟩
  clear c
  have c0 := hcell 0 (by omega)
  rw [ha] at c0
  have c1 := hcell 1 (by omega)
  rw [hbb] at c1
  clear hcell
  generalize ByteArray.mk a.toArray = s1 at *
  go_wp2_with fail
  refine (d _).mono ?_
  rintro e w2 ⟨g2, cap2, rfl, hcell2, hg2, hb2⟩
  clear d
  have hB2 := then_below hb1 hb2
  have c1' : w2.cell? ⟨g, 1, none⟩ = some (.string ⟨b.toArray⟩) := (hb2.cell (p := ⟨g, 1, none⟩) hg).trans c1
  clear c1
  have d0 := hcell2 0 (by omega)
  rw [hx] at d0
  have d1 := hcell2 1 (by omega)
  rw [hy] at d1
  clear hcell2
  go_wp2_with fail
  refine (t0 _).mono ?_
  rintro e w' ⟨rfl, rfl⟩
  go_wp2_with fail
  refine (t1 _).mono ?_
  rintro e w' ⟨rfl, rfl⟩
  go_wp2_with fail
  refine (t2 _).mono ?_
  rintro e w' ⟨v, rfl, rfl⟩
  go_wp2_with fail
  go_ret2
  exact ⟨rfl, hB2⟩

set_option maxHeartbeats 2000000 in
theorem item_two_szero (lo hi : Nat) (_hlh : lo ≤ hi) (_hh : hi < 64) (l : List UInt8) (hl : l.length ≤ 200) (w : World) (hn : (sp 47 l).length = 2) (a : List UInt8) (ha : (sp 47 l).getD 0 [] = a) (hal : a.length ≤ 200) (hne : a ≠ [42]) (hm : (sp 45 a).length = 2) (x : List UInt8) (hx : (sp 45 a).getD 0 [] = x) (hxl : x.length ≤ 200) (y : List UInt8) (hy : (sp 45 a).getD 1 [] = y) (hyl : y.length ≤ 200) (f : Int) (hf : numO x = some f) (hlow : ¬ f < lo) (hhig : ¬ hi < f) (t : Int) (ht : numO y = some t) (hlt : ¬ t < f) (hht : ¬ hi < t) (b : List UInt8) (hbb : (sp 47 l).getD 1 [] = b) (hbl : b.length ≤ 200) (st : Int) (hst : numO b = some st) (hs1 : st < 1) :
    Calls Tryd.prog 20 #[.string ⟨l.toArray⟩, .int .i64 lo, .int .i64 hi] w fun e w' => e = .returned (.tuple #[.int .u64 0, .bool false]) ∧ Below w.heap.size w w' := by
  have t0 := fun w => twoDigits_yes x f w hxl hf
  have gf := num_ge hf
  have HF : Hid (numO x = some f) := hf
  clear hf
  have t1 := fun w => twoDigits_yes y t w hyl ht
  have gt := num_ge ht
  have HT : Hid (numO y = some t) := ht
  clear ht
  have t2 := fun w => twoDigits_yes b st w hbl hst
  have gs := num_ge hst
  have HST : Hid (numO b = some st) := hst
  clear hst
  have hq := not_star hne
  have d := fun w => Pieces_n a 45 2 hm w hal
  rw [show (45 : UInt8).toNat = 45 from rfl] at d
  have c := Pieces_n l 47 2 hn w hl
  rw [show (47 : UInt8).toNat = 47 from rfl] at c
  generalize ByteArray.mk l.toArray = s0 at *
  go_enter Tryd.func20, Tryd.ntmps20
  go_wp2_with fail
  refine c.mono ?_
  rintro e w1 ⟨g, cap, rfl, hcell, hg, hb1⟩
  clear c
  have c0 := hcell 0 (by omega)
  rw [ha] at c0
  have c1 := hcell 1 (by omega)
  rw [hbb] at c1
  clear hcell
  generalize ByteArray.mk a.toArray = s1 at *
  go_wp2_with fail
  refine (d _).mono ?_
  rintro e w2 ⟨g2, cap2, rfl, hcell2, hg2, hb2⟩
  clear d
  have hB2 := then_below hb1 hb2
  have c1' : w2.cell? ⟨g, 1, none⟩ = some (.string ⟨b.toArray⟩) := (hb2.cell (p := ⟨g, 1, none⟩) hg).trans c1
  clear c1
  have d0 := hcell2 0 (by omega)
  rw [hx] at d0
  have d1 := hcell2 1 (by omega)
  rw [hy] at d1
  clear hcell2
  go_wp2_with fail
  refine (t0 _).mono ?_
  rintro e w' ⟨rfl, rfl⟩
  go_wp2_with fail
  refine (t1 _).mono ?_
  rintro e w' ⟨rfl, rfl⟩
  go_wp2_with fail
  refine (t2 _).mono ?_
  rintro e w' ⟨rfl, rfl⟩
  go_wp2_with fail
  go_ret2
  exact ⟨rfl, hB2⟩

set_option maxHeartbeats 2000000 in
theorem item_two_step (lo hi : Nat) (_hlh : lo ≤ hi) (_hh : hi < 64) (l : List UInt8) (hl : l.length ≤ 200) (w : World) (hn : (sp 47 l).length = 2) (a : List UInt8) (ha : (sp 47 l).getD 0 [] = a) (hal : a.length ≤ 200) (hne : a ≠ [42]) (hm : (sp 45 a).length = 2) (x : List UInt8) (hx : (sp 45 a).getD 0 [] = x) (hxl : x.length ≤ 200) (y : List UInt8) (hy : (sp 45 a).getD 1 [] = y) (hyl : y.length ≤ 200) (f : Int) (hf : numO x = some f) (hlow : ¬ f < lo) (hhig : ¬ hi < f) (t : Int) (ht : numO y = some t) (hlt : ¬ t < f) (hht : ¬ hi < t) (b : List UInt8) (hbb : (sp 47 l).getD 1 [] = b) (hbl : b.length ≤ 200) (st : Int) (hst : numO b = some st) (hs1 : 1 ≤ st) :
    Calls Tryd.prog 20 #[.string ⟨l.toArray⟩, .int .i64 lo, .int .i64 hi] w fun e w' => e = .returned (.tuple #[.int .u64 (spn f t st : Nat), .bool true]) ∧ Below w.heap.size w w' := by
  have t0 := fun w => twoDigits_yes x f w hxl hf
  have gf := num_ge hf
  have HF : Hid (numO x = some f) := hf
  clear hf
  have t1 := fun w => twoDigits_yes y t w hyl ht
  have gt := num_ge ht
  have HT : Hid (numO y = some t) := ht
  clear ht
  have t2 := fun w => twoDigits_yes b st w hbl hst
  have gs := num_ge hst
  have HST : Hid (numO b = some st) := hst
  clear hst
  have hq := not_star hne
  have d := fun w => Pieces_n a 45 2 hm w hal
  rw [show (45 : UInt8).toNat = 45 from rfl] at d
  have c := Pieces_n l 47 2 hn w hl
  rw [show (47 : UInt8).toNat = 47 from rfl] at c
  generalize ByteArray.mk l.toArray = s0 at *
  go_enter Tryd.func20, Tryd.ntmps20
  go_wp2_with fail
  refine c.mono ?_
  rintro e w1 ⟨g, cap, rfl, hcell, hg, hb1⟩
  clear c
  have c0 := hcell 0 (by omega)
  rw [ha] at c0
  have c1 := hcell 1 (by omega)
  rw [hbb] at c1
  clear hcell
  generalize ByteArray.mk a.toArray = s1 at *
  go_wp2_with fail
  refine (d _).mono ?_
  rintro e w2 ⟨g2, cap2, rfl, hcell2, hg2, hb2⟩
  clear d
  have hB2 := then_below hb1 hb2
  have c1' : w2.cell? ⟨g, 1, none⟩ = some (.string ⟨b.toArray⟩) := (hb2.cell (p := ⟨g, 1, none⟩) hg).trans c1
  clear c1
  have d0 := hcell2 0 (by omega)
  rw [hx] at d0
  have d1 := hcell2 1 (by omega)
  rw [hy] at d1
  clear hcell2
  go_wp2_with fail
  refine (t0 _).mono ?_
  rintro e w' ⟨rfl, rfl⟩
  go_wp2_with fail
  refine (t1 _).mono ?_
  rintro e w' ⟨rfl, rfl⟩
  go_wp2_with fail
  refine (t2 _).mono ?_
  rintro e w' ⟨rfl, rfl⟩
  go_wp2_with fail
  go_loop [16, 17] (fun v i => ∃ q : Int, i = .int .i64 q ∧ f ≤ q ∧ q ≤ t + 1 ∧ v = .int .u64 (spn f (q - 1) st : Nat)) (fun _ i => (65 - intOf i).toNat)
  case atStart => exact ⟨f, rfl, by omega, by omega, by rw [spn_start (by omega)]; rfl⟩
  case round =>
    obtain ⟨q, rfl, q1, q2, rfl⟩ := hrel
    by_cases hq2 : q ≤ t
    · have hlt := spn_lt (f := f) (t := q - 1) (s := st) (by omega) (by omega)
      by_cases hmod : (q - f) % st = 0
      · have HM : Hid ((q.toNat - (f : Int).toNat) % (st : Int).toNat = 0) := (mod_cast' (by omega) q1 (by omega)).1 hmod
        go_wp2_with fail
        go_round
        case rel => exact ⟨q + 1, by go_num, by omega, by omega, by rw [wrap_pow (by omega) (by omega), bits_or_u64_nat _ _ hlt (pow_lt (by omega) (by omega)), show q + 1 - 1 = q by omega, spn_add (by omega) q1 HM.out]⟩
        case measure => simp [intOf]; omega
      · have HM : Hid (¬ (q.toNat - (f : Int).toNat) % (st : Int).toNat = 0) := fun h => hmod ((mod_cast' (by omega) q1 (by omega)).2 h)
        have hmb : ((q - f) % st == 0) = false := by simpa using hmod
        clear hmod
        go_wp2_with fail
        go_round
        case rel => exact ⟨q + 1, by go_num, by omega, by omega, by rw [show q + 1 - 1 = q by omega, spn_skip (by omega) HM.out]⟩
        case measure => simp [intOf]; omega
    · have he : q - 1 = t := by omega
      have HE : Hid (q - 1 = t) := he
      clear he
      go_wp2_with fail
      go_ret2
      exact ⟨ret_ub (by rw [HE.out]), hB2⟩

theorem getD_len {c : UInt8} {l : List UInt8} (hl : l.length ≤ 200) (j : Nat) : ((sp c l).getD j []).length ≤ 200 := by
  by_cases h : j < (sp c l).length
  · have := sp_len c l _ (mem_getD h)
    omega
  · rw [List.getD_eq_getElem?_getD, List.getElem?_eq_none (by omega)]
    simp
theorem cronItem_r (lo hi : Nat) (hlh : lo ≤ hi) (hh : hi < 64) (l : List UInt8) (hl : l.length ≤ 200) (w : World) (r : Option Nat) (hr : itemR lo hi l = r) :
    Calls Tryd.prog 20 #[.string ⟨l.toArray⟩, .int .i64 lo, .int .i64 hi] w fun e w' => e = .returned (.tuple #[.int .u64 ((r.getD 0 : Nat) : Int), .bool r.isSome]) ∧ Below w.heap.size w w' := by
  have h1 : 1 ≤ (sp 47 l).length := by obtain ⟨p, q, e⟩ := sp_ne 47 l; rw [e]; simp
  unfold itemR at hr
  by_cases hm : 2 < (sp 47 l).length
  · rw [if_pos hm] at hr
    subst hr
    exact item_many lo hi hlh hh l hl w _ rfl hm
  · rw [if_neg hm] at hr
    have hal := getD_len (c := 47) hl 0
    have hbl := getD_len (c := 47) hl 1
    generalize ha : (sp 47 l).getD 0 [] = a at *
    generalize hb : (sp 47 l).getD 1 [] = b at *
    unfold headR at hr
    by_cases hs : a = [42]
    · subst hs
      rw [if_pos rfl] at hr
      simp only [Option.bind_some] at hr
      by_cases h2 : (sp 47 l).length = 2
      · rw [if_pos h2] at hr
        cases hst : numO b with
        | none =>
          rw [hst] at hr
          subst hr
          exact item_star_snone lo hi hlh hh l hl w h2 ha b hb hbl hst
        | some st =>
          rw [hst] at hr
          simp only [Option.bind_some, and_true] at hr
          by_cases hs1 : 1 ≤ st
          · rw [if_pos hs1] at hr
            subst hr
            exact item_star_step lo hi hlh hh l hl w h2 ha b hb hbl st hst hs1
          · rw [if_neg hs1] at hr
            subst hr
            exact item_star_szero lo hi hlh hh l hl w h2 ha b hb hbl st hst (by omega)
      · rw [if_neg h2] at hr
        subst hr
        exact item_star_one lo hi hlh hh l hl w (by omega) ha
    · rw [if_neg hs] at hr
      have k1 : 1 ≤ (sp 45 a).length := by obtain ⟨p, q, e⟩ := sp_ne 45 a; rw [e]; simp
      by_cases hm2 : 2 < (sp 45 a).length
      · rw [if_pos hm2] at hr
        subst hr
        exact item_many2 lo hi hlh hh l hl w _ rfl h1 (by omega) a ha hal hs _ rfl hm2
      · rw [if_neg hm2] at hr
        have hxl := getD_len (c := 45) hal 0
        have hyl := getD_len (c := 45) hal 1
        generalize hx : (sp 45 a).getD 0 [] = x at *
        generalize hy : (sp 45 a).getD 1 [] = y at *
        unfold memO at hr
        cases hf : numO x with
        | none =>
          rw [hf] at hr
          subst hr
          exact item_x_none lo hi hlh hh l hl w _ rfl h1 (by omega) a ha hal hs _ rfl k1 (by omega) x hx hxl hf
        | some f =>
          rw [hf] at hr
          simp only [Option.bind_some] at hr
          by_cases hin : (lo : Int) ≤ f ∧ f ≤ hi
          · rw [if_pos hin] at hr
            simp only [Option.bind_some] at hr
            have hlow : ¬ f < lo := by omega
            have hhig : ¬ (hi : Int) < f := by omega
            by_cases k2 : (sp 45 a).length = 2
            · rw [if_pos k2] at hr
              cases ht : numO y with
              | none =>
                rw [ht] at hr
                subst hr
                exact item_y_none lo hi hlh hh l hl w _ rfl h1 (by omega) a ha hal hs k2 x hx hxl y hy hyl f hf hlow hhig ht
              | some t =>
                rw [ht] at hr
                simp only [Option.bind_some] at hr
                by_cases hti : f ≤ t ∧ t ≤ hi
                · rw [if_pos hti] at hr
                  simp only [Option.bind_some, and_true] at hr
                  have hlt : ¬ t < f := by omega
                  have hht : ¬ (hi : Int) < t := by omega
                  by_cases h2 : (sp 47 l).length = 2
                  · rw [if_pos h2] at hr
                    cases hst : numO b with
                    | none =>
                      rw [hst] at hr
                      subst hr
                      exact item_two_snone lo hi hlh hh l hl w h2 a ha hal hs k2 x hx hxl y hy hyl f hf hlow hhig t ht hlt hht b hb hbl hst
                    | some st =>
                      rw [hst] at hr
                      simp only [Option.bind_some] at hr
                      by_cases hs1 : 1 ≤ st
                      · rw [if_pos hs1] at hr
                        subst hr
                        exact item_two_step lo hi hlh hh l hl w h2 a ha hal hs k2 x hx hxl y hy hyl f hf hlow hhig t ht hlt hht b hb hbl st hst hs1
                      · rw [if_neg hs1] at hr
                        subst hr
                        exact item_two_szero lo hi hlh hh l hl w h2 a ha hal hs k2 x hx hxl y hy hyl f hf hlow hhig t ht hlt hht b hb hbl st hst (by omega)
                  · rw [if_neg h2] at hr
                    subst hr
                    exact item_two_one lo hi hlh hh l hl w (by omega) a ha hal hs k2 x hx hxl y hy hyl f hf hlow hhig t ht hlt hht
                · rw [if_neg hti] at hr
                  subst hr
                  by_cases hlt : t < f
                  · exact item_y_low lo hi hlh hh l hl w _ rfl h1 (by omega) a ha hal hs k2 x hx hxl y hy hyl f hf hlow hhig t ht hlt
                  · exact item_y_high lo hi hlh hh l hl w _ rfl h1 (by omega) a ha hal hs k2 x hx hxl y hy hyl f hf hlow hhig t ht hlt (by omega)
            · rw [if_neg k2] at hr
              simp only [Option.bind_some] at hr
              have k3 : (sp 45 a).length = 1 := by omega
              by_cases h2 : (sp 47 l).length = 2
              · rw [if_pos h2] at hr
                cases hst : numO b with
                | none =>
                  rw [hst] at hr
                  subst hr
                  exact item_one_snone lo hi hlh hh l hl w h2 a ha hal hs k3 x hx hxl f hf hlow hhig b hb hbl hst
                | some st =>
                  rw [hst] at hr
                  simp at hr
                  subst hr
                  by_cases hs1 : 1 ≤ st
                  · exact item_one_step lo hi hlh hh l hl w h2 a ha hal hs k3 x hx hxl f hf hlow hhig b hb hbl st hst hs1
                  · exact item_one_szero lo hi hlh hh l hl w h2 a ha hal hs k3 x hx hxl f hf hlow hhig b hb hbl st hst (by omega)
              · rw [if_neg h2] at hr
                subst hr
                exact item_one_one lo hi hlh hh l hl w (by omega) a ha hal hs k3 x hx hxl f hf hlow hhig
          · rw [if_neg hin] at hr
            subst hr
            by_cases hlow : f < lo
            · exact item_x_low lo hi hlh hh l hl w _ rfl h1 (by omega) a ha hal hs _ rfl k1 (by omega) x hx hxl f hf hlow
            · exact item_x_high lo hi hlh hh l hl w _ rfl h1 (by omega) a ha hal hs _ rfl k1 (by omega) x hx hxl f hf hlow (by omega)
theorem cronItem_any (lo hi : Nat) (hlh : lo ≤ hi) (hh : hi < 64) (l : List UInt8) (hl : l.length ≤ 200) (w : World) (r : Option Nat) (HR : Hid (itemO lo hi l = r)) :
    Calls Tryd.prog 20 #[.string ⟨l.toArray⟩, .int .i64 lo, .int .i64 hi] w fun e w' => e = .returned (.tuple #[.int .u64 ((r.getD 0 : Nat) : Int), .bool r.isSome]) ∧ Below w.heap.size w w' :=
  cronItem_r lo hi hlh hh l hl w r ((item_eq l).trans HR.out)
end Go.Proofs.YthebcdadoinflaaDoor
