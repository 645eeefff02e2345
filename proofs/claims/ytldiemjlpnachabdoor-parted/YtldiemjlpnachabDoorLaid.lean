import Derived.Test.YtldiemjlpnachabDoorMem
import Derived.Lib.LaidTab
namespace Go.Proofs.YtldiemjlpnachabDoor
open Go.RowKit

/-- An array of strings that reads as a list of texts holds them, cell for cell. -/
theorem cells_of_strs {H : Type} {enc : TypeId × Value → H} {P : Program} {w : World} {base : Nat} {sp : Nat → Bool} {held : Bool} {fuel : Nat} {t e : TypeId} {n : Nat} {cs : List Value} {zs : List (List UInt8)} {p : List MemPlace}
    (ht : P.underlying t = some (.array n e)) (he : P.underlying e = some .string) (hce : P.cellsOf e = 1) (hct : P.cellsOf t = n)
    (h : DataW.trod enc P w base sp held fuel t cs = some (.agg (zs.map fun z => .lit (.string z)), p)) : cs = zs.map fun z => Value.string ⟨z.toArray⟩ := by
  cases fuel with
  | zero => simp [DataW.trod] at h
  | succ fuel =>
    simp only [DataW.trod, ht, hce, hct, Nat.mul_one] at h
    split at h
    · rename_i hl
      obtain ⟨xs, hm, hx⟩ := Option.map_eq_some_iff.1 h
      have hxs : xs.map (·.1) = zs.map fun z => (DataW.lit (.string z) : DataW H) := by
        have := congrArg Prod.fst hx
        simpa using this
      have hxl : xs.length = n := by simpa using Lib.mapM_length hm
      have hzl : zs.length = n := by
        have := congrArg List.length hxs
        simp at this
        omega
      apply List.ext_getElem?
      intro i
      by_cases hi : i < n
      · obtain ⟨b, hb, hf⟩ := Lib.mapM_at hm i i (by simp [hi])
        obtain ⟨z, hc, rfl, _⟩ := DataW.trod_string he hf
        have h1 : cs[i]? = some (.string z) := by
          have := congrArg (·[0]?) hc
          simpa [List.getElem?_take, List.getElem?_drop] using this
        have h2 : (xs.map (·.1))[i]? = some (DataW.lit (.string z.data.toList) : DataW H) := by simp [hb]
        rw [hxs] at h2
        simp only [List.getElem?_map, Option.map_eq_some_iff, DataW.lit.injEq, Lit.string.injEq] at h2
        obtain ⟨z', hz', rfl⟩ := h2
        simp [h1, hz']
      · rw [List.getElem?_eq_none (by omega), List.getElem?_eq_none (by simp; omega)]
    · cases h

def nameTexts : List (List UInt8) := [[91, 58, 97, 108, 112, 104, 97, 58, 93], [91, 58, 100, 105, 103, 105, 116, 58, 93], [91, 58, 97, 108, 110, 117, 109, 58, 93], [91, 58, 117, 112, 112, 101, 114, 58, 93], [91, 58, 108, 111, 119, 101, 114, 58, 93], [91, 58, 115, 112, 97, 99, 101, 58, 93]]

theorem gNames : Tryd.prog.globalNamed "bre/syntax.classNames" = some 1 := by kernel_rfl
theorem gNamesType : (Tryd.prog.globals[1]?).map (·.type) = some 174 := by kernel_rfl
theorem uNames : Tryd.prog.underlying 174 = some (.array 6 9) := by kernel_rfl
theorem uString : Tryd.prog.underlying 9 = some .string := by kernel_rfl
theorem cNames : Tryd.prog.cellsOf 174 = 6 := by kernel_rfl
theorem cString : Tryd.prog.cellsOf 9 = 1 := by kernel_rfl

/-- what a row's list gives: the six names lie in their cells -/
theorem names_of_laid {W : World} {rest : List (String × DataW Unit)} (h : laidMet Tryd.prog (("bre/syntax.classNames", Rows.laid_bre_syntax_classNames) :: rest) W) : NamesIn W := by
  obtain ⟨ps, ⟨g', t', cs, fuel, p, q, hg', ht', hvar, hd, _, _⟩, _⟩ := h
  obtain rfl := Option.some.inj (gNames.symm.trans hg')
  obtain rfl := Option.some.inj (gNamesType.symm.trans ht')
  have hcs := cells_of_strs (zs := nameTexts) uNames uString cString cNames hd
  obtain rfl : cs = (nameTexts.map fun z => Value.string ⟨z.toArray⟩).toArray := by cases cs; simp_all
  have hc := World.var?_cell gNames hvar
  exact ⟨hc 0, hc 1, hc 2, hc 3, hc 4, hc 5⟩
end Go.Proofs.YtldiemjlpnachabDoor
