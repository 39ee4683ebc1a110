/- What a row's list says of a table of texts. No program is named here. -/
import Derived.Lib.LaidTab
import Derived.Lib.LaidU8
namespace Go.Proofs.YtelepamnlpebgabDoor.Tnm
open Go Go.Lib

theorem names_of_reads {P : Program} {W : World} {name : String} {ds : List (List UInt8)} {g : Nat} {t e : TypeId} {n : Nat} (hg : P.globalNamed name = some g) (hty : (P.globals[g]?).map (·.type) = some t) (ht : P.underlying t = some (.array n e)) (he : P.underlying e = some .string) (hce : P.cellsOf e = 1)
    (h : VarReads P W name (.agg (ds.map fun s => .lit (.string s)))) (i : Nat) (hi : i < n) (s : List UInt8) (hs : ds[i]? = some s) : W.cell? ⟨g, i, none⟩ = some (.string ⟨s.toArray⟩) := by
  obtain ⟨g', t', cs, fuel, p, hg', ht', hvar, hd⟩ := h
  obtain rfl := Option.some.inj (hg.symm.trans hg')
  obtain rfl := Option.some.inj (hty.symm.trans ht')
  obtain ⟨f', d, q, hd1, hd2⟩ := array_elem ht hd i hi
  rw [List.getElem?_map, hs] at hd1
  obtain rfl : _ = d := Option.some.inj hd1
  rw [hce, Nat.mul_one] at hd2
  obtain ⟨b, hc, hx, _⟩ := DataW.trod_string he hd2
  have hb : s = b.data.toList := by
    have := congrArg Prod.fst hx
    simpa using this
  have hci : cs[i]? = some (.string b) := by
    have := congrArg (·[0]?) hc
    simpa [List.getElem?_take, List.getElem?_drop] using this
  rw [World.var?_cell hg hvar i, hci, hb]
end Go.Proofs.YtelepamnlpebgabDoor.Tnm
