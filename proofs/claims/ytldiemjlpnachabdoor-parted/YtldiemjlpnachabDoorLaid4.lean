import Derived.Test.YtldiemjlpnachabDoorLaid
import Derived.Test.YtldiemjlpnachabDoorGr
import Derived.LaidSub
namespace Go.Proofs.YtldiemjlpnachabDoor
open Go.RowKit

/-- the variables that a row of Grep's lists -/
def rows4 : List (String × DataW Unit) := [("bre/syntax.classNames", Rows.laid_bre_syntax_classNames), ("math/bits.deBruijn32tab", Rows.laid_math_bits_deBruijn32tab), ("math/bits.deBruijn64tab", Rows.laid_math_bits_deBruijn64tab), ("internal/strconv.uint64pow10", Rows.laid_internal_strconv_uint64pow10)]
theorem rows4_pow : rows4.filter (fun x => x.1 == "internal/strconv.uint64pow10") = [("internal/strconv.uint64pow10", Lib.tabData .u64 Lib.pow10Tab)] := by kernel_rfl
theorem gPowType : (Tryd.prog.globals[0]?).map (·.type) = some 160 := by kernel_rfl
theorem uPow : Tryd.prog.underlying 160 = some (.array 20 144) := by kernel_rfl
theorem uPow2 : Tryd.prog.underlying 144 = some (.int .u64) := by kernel_rfl
theorem cPow : Tryd.prog.cellsOf 160 = 20 := by kernel_rfl
theorem cPow2 : Tryd.prog.cellsOf 144 = 1 := by kernel_rfl
theorem tb_of_laid {W : World} (h : laidMet Tryd.prog rows4 W) : Tb W := by
  have h1 := h.filter (fun x => x.1 == "internal/strconv.uint64pow10")
  rw [rows4_pow] at h1
  exact Lib.tabIs_of_head gTb gPowType uPow uPow2 cPow2 cPow h1
def cellsD : DataW Unit → Array Value
  | .agg l => (l.map fun
    | .lit (.int k z) => Value.int k z
    | .lit (.string s) => Value.string ⟨s.toArray⟩
    | _ => Value.bool false).toArray
  | _ => #[]
def layC (d : DataW Unit) : Obj → Obj
  | .cells _ t frozen => .cells (cellsD d) t frozen
  | o => o
/-- A world for the witness: the settled one, the tables holding what their initialisers lay. -/
noncomputable def laidWorld4 (os : Os) : World :=
  { World.holding Tryd.prog os ⟨#[], #[], []⟩ with heap := ((((World.holding Tryd.prog os ⟨#[], #[], []⟩).heap.modify 1 (layC Rows.laid_bre_syntax_classNames)).modify 2 (layC Rows.laid_math_bits_deBruijn32tab)).modify 3 (layC Rows.laid_math_bits_deBruijn64tab)).modify 0 (layC Rows.laid_internal_strconv_uint64pow10) }
end Go.Proofs.YtldiemjlpnachabDoor
