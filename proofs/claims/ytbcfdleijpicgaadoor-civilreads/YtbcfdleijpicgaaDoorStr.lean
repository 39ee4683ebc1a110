/- What civil.digits, civil.Text and civil.Read answer, in every world that holds the table of the months' lengths and the library's powers of ten. -/
import Derived.Test.YtbcfdleijpicgaaDoorCiv
import Derived.Test.YtbcfdleijpicgaaDoorTxt
import Derived.Test.YtbcfdleijpicgaaDoorShelf
import Derived.Test.YtbcfdleijpicgaaDoorNum
import Derived.Lib.SmallJoins
namespace Go.Proofs.YtbcfdleijpicgaaDoor
open Go.RowKit Cal Txt

/-- Both tables lie in their variables. -/
def Tabs (w : World) : Prop := Tab w ∧ Lib.TabIs Tryd.prog w "internal/strconv.uint64pow10" .u64 Lib.pow10Tab

theorem gPow : Tryd.prog.globalNamed "internal/strconv.uint64pow10" = some 4 := by kernel_rfl
theorem Tab.size {w : World} (h : Tab w) : 1 < w.heap.size := by
  have := h 0 (by omega)
  rcases Nat.lt_or_ge 1 w.heap.size with e | e
  · exact e
  · exfalso
    have e' : w.heap[(1 : Nat)]? = none := by simp; exact e
    simp [World.cell?, e'] at this
theorem Tab.stays {w w' : World} (h : Tab w) (hb : Below w.heap.size w w') : Tab w' := fun k hk => (hb.cell (p := ⟨1, k, none⟩) h.size).trans (h k hk)
theorem Tabs.stays {w w' : World} (h : Tabs w) (hb : Below w.heap.size w w') : Tabs w' := ⟨h.1.stays hb, Joins.tab_stays gPow h.2 hb (Nat.le_refl _)⟩
theorem below_on {a b c : World} (h : Below a.heap.size a b) (k : Below b.heap.size b c) : Below a.heap.size a c := h.trans (k.mono h.size)
theorem below_grow (w : World) (k : Nat) (os : Array Obj) : Below w.heap.size w (Sort.grow (w.drewN k) os) :=
  ⟨rfl, rfl, rfl, by simp [Sort.size_grow], fun j hj => Sort.heap_grow_old (w.drewN k) os hj⟩

theorem ret_str {a b : ByteArray} (h : a = b) : Ending.returned (.string a) = .returned (.string b) := by rw [h]
theorem ret_stri {k : IntKind} {n : Int} {a b : ByteArray} (h : a = b) : Ending.returned (.tuple #[.string a, .int k n]) = .returned (.tuple #[.string b, .int k n]) := by rw [h]
theorem join5 (x y z : List UInt8) : (ByteArray.mk x.toArray ++ ByteArray.mk #[45] ++ ByteArray.mk y.toArray ++ ByteArray.mk #[45] ++ ByteArray.mk z.toArray) = ByteArray.mk (x ++ 45 :: (y ++ 45 :: z)).toArray := by
  rw [show (#[45] : Array UInt8) = [45].toArray from rfl, ByteArray.mk_append_mk, ByteArray.mk_append_mk, ByteArray.mk_append_mk, ByteArray.mk_append_mk]
  simp

set_option maxHeartbeats 400000 in
theorem digits_any (u n : Nat) (hu : u < 10000) (hn : n ≤ 4) (r : List UInt8) (HR : Hid ((Lib.decDigits u).length ≤ n ∧ Lib.repeatL [48] (n - (Lib.decDigits u).length) ++ Lib.decDigits u = r)) (w : World) (hT : Tabs w) :
    Calls Tryd.prog 33 #[.int .i64 u, .int .i64 n] w fun e w' => e = .returned (.string ⟨r.toArray⟩) ∧ Below w.heap.size w w' := by
  go_enter Tryd.func33, Tryd.ntmps33
  go_wp2_with fail
  refine (Tryd.strconv_Itoa _ (by omega) (by omega) _ hT.2).mono ?_
  rintro e w1 ⟨rfl, k, os, rfl⟩
  have hb := below_grow w k os
  have hT1 := hT.stays hb
  rw [Lib.itoa_nonneg]
  generalize Sort.grow (w.drewN k) os = w1 at *
  generalize Lib.decDigits u = l at *
  have hl : l.length ≤ n := HR.out.1
  go_wp2_with fail
  rw [show ((n : Int) - (l.length : Int)) = ((n - l.length : Nat) : Int) by omega]
  refine (Tryd.strings_Repeat _ _ _ (by omega) (by simp [ByteArray.size]; omega)).mono ?_
  rintro e w2 ⟨rfl, hb2⟩
  have hrl := Lib.repeatL_length [48] (n - l.length)
  have hs : ((ByteArray.mk #[48]).data.toList : List UInt8) = [48] := rfl
  rw [hs]
  generalize Lib.repeatL [48] (n - l.length) = q at *
  simp only [List.length_cons, List.length_nil] at hrl
  have hql : q.length ≤ n := by omega
  clear hrl
  go_wp2_with fail
  go_ret
  exact ⟨ret_str (by rw [ByteArray.mk_append_mk, HR.out.2]), below_on hb hb2⟩

theorem digits2 (a : Int) (w : World) (hT : Tabs w) (h0 : 0 ≤ a) (h1 : a < 100) :
    Calls Tryd.prog 33 #[.int .i64 a, .int .i64 2] w fun e w' => e = .returned (.string ⟨(d2 a.toNat).toArray⟩) ∧ Below w.heap.size w w' := by
  obtain ⟨u, rfl⟩ := Int.eq_ofNat_of_zero_le h0
  exact digits_any u 2 (by omega) (by omega) _ (pad2 (by omega)) w hT
theorem digits4 (a : Int) (w : World) (hT : Tabs w) (h0 : 0 ≤ a) (h1 : a < 10000) :
    Calls Tryd.prog 33 #[.int .i64 a, .int .i64 4] w fun e w' => e = .returned (.string ⟨(d4 a.toNat).toArray⟩) ∧ Below w.heap.size w w' := by
  obtain ⟨u, rfl⟩ := Int.eq_ofNat_of_zero_le h0
  exact digits_any u 4 (by omega) (by omega) _ (pad4 (by omega)) w hT

set_option maxHeartbeats 400000 in
theorem Text_no (n : Int) (w : World) (h : Hid (n < 0 ∨ 3652058 < n)) :
    Calls Tryd.prog 11 #[.int .i64 n] w fun e w' => e = .returned (.tuple #[.string ⟨#[]⟩, .int .i64 4]) ∧ w' = w := by
  go_enter Tryd.func11, Tryd.ntmps11
  go_wp2_with (go_at_call 26; refine (Date_no _ _ h.out).mono ?_; rintro e w' ⟨rfl, rfl⟩)
  go_ret2
  exact ⟨rfl, rfl⟩

set_option maxHeartbeats 400000 in
theorem Text_at (n y m d : Int) (w : World) (hT : Tabs w) (hv : vld y m d = true) (hn : Hid (num y m d = n)) :
    Calls Tryd.prog 11 #[.int .i64 n] w fun e w' => e = .returned (.tuple #[.string ⟨(txt y m d).toArray⟩, .int .i64 0]) ∧ Below w.heap.size w w' := by
  obtain ⟨a1, a2, a3, a4, a5, a6⟩ := vld_open hv
  have ad := dim_bd y m
  have HT : Hid (txt y m d = d4 y.toNat ++ 45 :: (d2 m.toNat ++ 45 :: d2 d.toNat)) := rfl
  have l4 : (d4 y.toNat).length ≤ 4 := Nat.le_refl _
  have l2 : (d2 m.toNat).length ≤ 2 := Nat.le_refl _
  have l0 : (d2 d.toNat).length ≤ 2 := Nat.le_refl _
  go_enter Tryd.func11, Tryd.ntmps11
  go_wp2_with (go_at_call 26; refine (Date_at _ _ _ _ _ hT.1 hv hn).mono ?_; rintro e w' ⟨rfl, rfl⟩)
  refine (digits4 _ _ hT (by omega) (by omega)).mono ?_
  rintro e w1 ⟨rfl, hb1⟩
  have hT1 := hT.stays hb1
  generalize d4 y.toNat = x4 at *
  go_wp2_with fail
  refine (digits2 _ _ hT1 (by omega) (by omega)).mono ?_
  rintro e w2 ⟨rfl, hb2⟩
  have hT2 := hT1.stays hb2
  generalize d2 m.toNat = x2 at *
  go_wp2_with fail
  refine (digits2 _ _ hT2 (by omega) (by omega)).mono ?_
  rintro e w3 ⟨rfl, hb3⟩
  generalize d2 d.toNat = x0 at *
  go_wp2_with fail
  go_ret2
  exact ⟨ret_stri (by rw [HT.out]; exact join5 _ _ _), below_on (below_on hb1 hb2) hb3⟩

theorem ext_list (s : ByteArray) (a b : Nat) : (s.extract a b).data.toList = (s.data.toList.take b).drop a := by
  rw [ByteArray.data_extract]; simp [List.drop_take]

theorem ext_size (s : ByteArray) (a b : Nat) (h : b - a ≤ 4) : (s.extract a b).size ≤ 4 := by rw [ByteArray.size_extract]; omega

theorem ext_pos (s : ByteArray) (a b : Nat) (h : a < b) (hb : b ≤ s.size) : 1 ≤ (s.extract a b).size := by rw [ByteArray.size_extract]; omega

/-- What a text is, as civil.Read asks it. -/
theorem rd_form {l : List UInt8} (h : l.length = 10) (h4 : l.getD 4 0 = 45) (h7 : l.getD 7 0 = 45) : rd l = (nrd (l.take 4) 0).bind fun y => (nrd ((l.drop 5).take 2) 0).bind fun m => (nrd (l.drop 8) 0).bind fun d => some (y, m, d) := by
  unfold rd; rw [if_pos ⟨h, h4, h7⟩]

theorem getD_byte (s : ByteArray) (k : Nat) (h : k < s.size) : s.data.toList.getD k 0 = s[k] := by
  rw [List.getD_eq_getElem?_getD, List.getElem?_eq_getElem (by simpa using h)]; rfl

set_option maxHeartbeats 400000 in
theorem Read_short (s : ByteArray) (w : World) (hq : ((s.size : Int) != 10) = true) :
    Calls Tryd.prog 13 #[.string s] w fun e w' => e = .returned (.tuple #[.int .i64 0, .int .i64 3]) ∧ w' = w := by
  go_enter Tryd.func13, Tryd.ntmps13
  go_wp2_with fail
  go_ret2
  exact ⟨rfl, rfl⟩

set_option maxHeartbeats 400000 in
theorem Read_dash (s : ByteArray) (w : World) (h10 : s.size = 10) (hq : (((s[4]'(by omega)).toNat : Int) != 45) = true ∨ (((s[4]'(by omega)).toNat : Int) != 45) = false ∧ (((s[7]'(by omega)).toNat : Int) != 45) = true) :
    Calls Tryd.prog 13 #[.string s] w fun e w' => e = .returned (.tuple #[.int .i64 0, .int .i64 3]) ∧ w' = w := by
  rcases hq with hq | ⟨hq, hq'⟩
  all_goals
    go_enter Tryd.func13, Tryd.ntmps13
    go_wp2_with fail
    go_ret2
    exact ⟨rfl, rfl⟩

set_option maxHeartbeats 800000 in
theorem Read_bad (s : ByteArray) (w : World) (h10 : s.size = 10) (hq : (((s[4]'(by omega)).toNat : Int) != 45) = false) (hq' : (((s[7]'(by omega)).toNat : Int) != 45) = false)
    (y m d : Option Int) (hy : Hid (nrd (s.extract 0 4).data.toList 0 = y)) (hm : Hid (nrd (s.extract 5 7).data.toList 0 = m)) (hd : Hid (nrd (s.extract 8 10).data.toList 0 = d)) (H : Hid (y = none ∨ m = none ∨ d = none)) :
    Calls Tryd.prog 13 #[.string s] w fun e w' => e = .returned (.tuple #[.int .i64 0, .int .i64 3]) ∧ w' = w := by
  cases y
  · go_enter Tryd.func13, Tryd.ntmps13
    go_wp2_with fail
    refine (number_any _ _ (ext_pos s 0 4 (by omega) (by omega)) (ext_size s 0 4 (by omega)) _ hy).mono ?_
    rintro e w' ⟨rfl, rfl⟩
    go_wp2_with fail
    refine (number_any _ _ (ext_pos s 5 7 (by omega) (by omega)) (ext_size s 5 7 (by omega)) _ hm).mono ?_
    rintro e w' ⟨rfl, rfl⟩
    go_wp2_with fail
    refine (number_any _ _ (ext_pos s 8 10 (by omega) (by omega)) (ext_size s 8 10 (by omega)) _ hd).mono ?_
    rintro e w' ⟨rfl, rfl⟩
    go_wp2_with fail
    go_ret2
    exact ⟨rfl, rfl⟩
  · cases m
    · go_enter Tryd.func13, Tryd.ntmps13
      go_wp2_with fail
      refine (number_any _ _ (ext_pos s 0 4 (by omega) (by omega)) (ext_size s 0 4 (by omega)) _ hy).mono ?_
      rintro e w' ⟨rfl, rfl⟩
      go_wp2_with fail
      refine (number_any _ _ (ext_pos s 5 7 (by omega) (by omega)) (ext_size s 5 7 (by omega)) _ hm).mono ?_
      rintro e w' ⟨rfl, rfl⟩
      go_wp2_with fail
      refine (number_any _ _ (ext_pos s 8 10 (by omega) (by omega)) (ext_size s 8 10 (by omega)) _ hd).mono ?_
      rintro e w' ⟨rfl, rfl⟩
      go_wp2_with fail
      go_ret2
      exact ⟨rfl, rfl⟩
    · cases d
      · go_enter Tryd.func13, Tryd.ntmps13
        go_wp2_with fail
        refine (number_any _ _ (ext_pos s 0 4 (by omega) (by omega)) (ext_size s 0 4 (by omega)) _ hy).mono ?_
        rintro e w' ⟨rfl, rfl⟩
        go_wp2_with fail
        refine (number_any _ _ (ext_pos s 5 7 (by omega) (by omega)) (ext_size s 5 7 (by omega)) _ hm).mono ?_
        rintro e w' ⟨rfl, rfl⟩
        go_wp2_with fail
        refine (number_any _ _ (ext_pos s 8 10 (by omega) (by omega)) (ext_size s 8 10 (by omega)) _ hd).mono ?_
        rintro e w' ⟨rfl, rfl⟩
        go_wp2_with fail
        go_ret2
        exact ⟨rfl, rfl⟩
      · exact absurd H.out (by simp)

set_option maxHeartbeats 400000 in
theorem Read_day (s : ByteArray) (w : World) (hT : Tab w) (h10 : s.size = 10) (hq : (((s[4]'(by omega)).toNat : Int) != 45) = false) (hq' : (((s[7]'(by omega)).toNat : Int) != 45) = false)
    (y m d : Int) (hy : Hid (nrd (s.extract 0 4).data.toList 0 = some y)) (hm : Hid (nrd (s.extract 5 7).data.toList 0 = some m)) (hd : Hid (nrd (s.extract 8 10).data.toList 0 = some d)) (hv : vld y m d = true) :
    Calls Tryd.prog 13 #[.string s] w fun e w' => e = .returned (.tuple #[.int .i64 (num y m d), .int .i64 0]) ∧ w' = w := by
  go_enter Tryd.func13, Tryd.ntmps13
  go_wp2_with fail
  refine (number_any _ _ (ext_pos s 0 4 (by omega) (by omega)) (ext_size s 0 4 (by omega)) _ hy).mono ?_
  rintro e w' ⟨rfl, rfl⟩
  go_wp2_with fail
  refine (number_any _ _ (ext_pos s 5 7 (by omega) (by omega)) (ext_size s 5 7 (by omega)) _ hm).mono ?_
  rintro e w' ⟨rfl, rfl⟩
  go_wp2_with fail
  refine (number_any _ _ (ext_pos s 8 10 (by omega) (by omega)) (ext_size s 8 10 (by omega)) _ hd).mono ?_
  rintro e w' ⟨rfl, rfl⟩
  go_wp2_with fail
  refine (Days_yes _ _ _ _ hT hv).mono ?_
  rintro e w' ⟨rfl, rfl⟩
  go_wp2_with fail
  go_ret2
  exact ⟨rfl, rfl⟩

set_option maxHeartbeats 400000 in
theorem Read_out (s : ByteArray) (w : World) (hT : Tab w) (h10 : s.size = 10) (hq : (((s[4]'(by omega)).toNat : Int) != 45) = false) (hq' : (((s[7]'(by omega)).toNat : Int) != 45) = false)
    (y m d : Int) (hy : Hid (nrd (s.extract 0 4).data.toList 0 = some y)) (hm : Hid (nrd (s.extract 5 7).data.toList 0 = some m)) (hd : Hid (nrd (s.extract 8 10).data.toList 0 = some d)) (hv : vld y m d = false) :
    Calls Tryd.prog 13 #[.string s] w fun e w' => e = .returned (.tuple #[.int .i64 0, .int .i64 4]) ∧ w' = w := by
  go_enter Tryd.func13, Tryd.ntmps13
  go_wp2_with fail
  refine (number_any _ _ (ext_pos s 0 4 (by omega) (by omega)) (ext_size s 0 4 (by omega)) _ hy).mono ?_
  rintro e w' ⟨rfl, rfl⟩
  go_wp2_with fail
  refine (number_any _ _ (ext_pos s 5 7 (by omega) (by omega)) (ext_size s 5 7 (by omega)) _ hm).mono ?_
  rintro e w' ⟨rfl, rfl⟩
  go_wp2_with fail
  refine (number_any _ _ (ext_pos s 8 10 (by omega) (by omega)) (ext_size s 8 10 (by omega)) _ hd).mono ?_
  rintro e w' ⟨rfl, rfl⟩
  go_wp2_with fail
  refine (Days_no _ _ _ _ hT hv).mono ?_
  rintro e w' ⟨rfl, rfl⟩
  go_wp2_with fail
  go_ret2
  exact ⟨rfl, rfl⟩

theorem dash (b : UInt8) : ((b.toNat : Int) != 45) = (b != 45) := by
  rw [Bool.eq_iff_iff]; simp only [bne_iff_ne, ne_eq, ← UInt8.toNat_inj]
  have : (45 : UInt8).toNat = 45 := rfl
  omega

theorem Read_form (s : ByteArray) (w : World) (H : Hid (rd s.data.toList = none)) :
    Calls Tryd.prog 13 #[.string s] w fun e w' => e = .returned (.tuple #[.int .i64 0, .int .i64 3]) ∧ w' = w := by
  have h := H.out
  by_cases h10 : s.size = 10
  · have g4 := getD_byte s 4 (by omega)
    have g7 := getD_byte s 7 (by omega)
    by_cases h4 : s[4]'(by omega) = 45
    · have q4 : (((s[4]'(by omega)).toNat : Int) != 45) = false := by rw [dash, h4]; rfl
      by_cases h7 : s[7]'(by omega) = 45
      · have q7 : (((s[7]'(by omega)).toNat : Int) != 45) = false := by rw [dash, h7]; rfl
        refine Read_bad s w h10 q4 q7 _ _ _ rfl rfl rfl ?_
        rw [rd_form (by simpa using h10) (g4.trans h4) (g7.trans h7)] at h
        show _ ∨ _ ∨ _
        have hl : s.data.toList.take 10 = s.data.toList := List.take_of_length_le (by simp; omega)
        rw [ext_list, ext_list, ext_list, hl, List.drop_zero, List.drop_take]
        cases h1 : nrd (s.data.toList.take 4) 0
        · exact .inl rfl
        · cases h2 : nrd ((s.data.toList.drop 5).take (7 - 5)) 0
          · exact .inr (.inl rfl)
          · cases h3 : nrd (s.data.toList.drop 8) 0
            · exact .inr (.inr rfl)
            · have h2' : nrd ((s.data.toList.drop 5).take 2) 0 = _ := h2
              rw [h1, h2', h3] at h
              simp at h
      · exact Read_dash s w h10 (.inr ⟨q4, by rw [dash]; simpa using h7⟩)
    · exact Read_dash s w h10 (.inl (by rw [dash]; simpa using h4))
  · exact Read_short s w (by simp; omega)

theorem rd_open {s : ByteArray} {y m d : Int} (h : rd s.data.toList = some (y, m, d)) :
    ∃ h10 : s.size = 10, (((s[4]'(by omega)).toNat : Int) != 45) = false ∧ (((s[7]'(by omega)).toNat : Int) != 45) = false ∧ nrd (s.extract 0 4).data.toList 0 = some y ∧ nrd (s.extract 5 7).data.toList 0 = some m ∧ nrd (s.extract 8 10).data.toList 0 = some d := by
  unfold rd at h
  split at h
  · rename_i hc
    obtain ⟨hl, g4, g7⟩ := hc
    have h10 : s.size = 10 := by simpa using hl
    rw [getD_byte s 4 (by omega)] at g4
    rw [getD_byte s 7 (by omega)] at g7
    simp only [Option.bind_eq_some_iff, Option.some.injEq, Prod.mk.injEq] at h
    obtain ⟨y', hy, m', hm, d', hd, rfl, rfl, rfl⟩ := h
    refine ⟨h10, by rw [dash, g4]; rfl, by rw [dash, g7]; rfl, ?_, ?_, ?_⟩
    · rw [ext_list, List.drop_zero]; exact hy
    · rw [ext_list, List.drop_take]; exact hm
    · rw [ext_list, List.take_of_length_le (by simp; omega)]; exact hd
  · simp at h

theorem Read_yes (s : ByteArray) (w : World) (hT : Tab w) (y m d : Int) (h : Hid (rd s.data.toList = some (y, m, d))) (hv : vld y m d = true) :
    Calls Tryd.prog 13 #[.string s] w fun e w' => e = .returned (.tuple #[.int .i64 (num y m d), .int .i64 0]) ∧ w' = w := by
  obtain ⟨h10, q4, q7, hy, hm, hd⟩ := rd_open h.out
  exact Read_day s w hT h10 q4 q7 y m d hy hm hd hv
theorem Read_no (s : ByteArray) (w : World) (hT : Tab w) (y m d : Int) (h : Hid (rd s.data.toList = some (y, m, d))) (hv : vld y m d = false) :
    Calls Tryd.prog 13 #[.string s] w fun e w' => e = .returned (.tuple #[.int .i64 0, .int .i64 4]) ∧ w' = w := by
  obtain ⟨h10, q4, q7, hy, hm, hd⟩ := rd_open h.out
  exact Read_out s w hT h10 q4 q7 y m d hy hm hd hv
end Go.Proofs.YtbcfdleijpicgaaDoor
