import Derived.Test.YtldiemjlpnachaaDoorComp
import Derived.Test.YtldiemjlpnachaaDoorRStr
import Derived.Test.YtldiemjlpnachaaDoorSize
import Derived.Laws.Tables
/- The document's reader: items in memory. -/
namespace Go.Proofs.YtldiemjlpnachaaDoor
open Go.RowKit

/-- an item's cells -/
def itC (is : ByteArray) (n : Int) (q : Option Addr) (mn mx : Int) : Array Value :=
  #[.string is] ++ Array.replicate 256 (.bool false) ++ #[.int .i64 n, .slice none 0 0, .pointer q, .int .i64 mn, .int .i64 mx]

theorem run_b0 (is : ByteArray) (w : World) : (Instr.build 123 #[(0, .string is)]).run Tryd.prog w = .ok (.agg (itC is 0 none 0 0)) w := by kernel_rfl
theorem run_b2 (is : ByteArray) (n : Int) (w : World) : (Instr.build 123 #[(0, .string is), (2, .int .i64 n)]).run Tryd.prog w = .ok (.agg (itC is n none 0 0)) w := by kernel_rfl
theorem run_b46 (is : ByteArray) (q : Option Addr) (mx : Int) (w : World) : (Instr.build 123 #[(0, .string is), (4, .pointer q), (6, .int .i64 mx)]).run Tryd.prog w = .ok (.agg (itC is 0 q 0 mx)) w := by kernel_rfl
theorem run_b456 (is : ByteArray) (q : Option Addr) (mn mx : Int) (w : World) : (Instr.build 123 #[(0, .string is), (4, .pointer q), (5, .int .i64 mn), (6, .int .i64 mx)]).run Tryd.prog w = .ok (.agg (itC is 0 q mn mx)) w := by kernel_rfl
theorem run_bx (is : ByteArray) (n : Int) (q : Option Addr) (mn mx : Int) (w : World) : (Instr.box 123 (.agg (itC is n q mn mx))).run Tryd.prog w = .ok (.pointer (some ⟨w.heap.size, 0, none⟩)) (w.alloc (.cells (itC is n q mn mx) 123)) := by kernel_rfl
theorem itC_size (is : ByteArray) (n : Int) (q : Option Addr) (mn mx : Int) : (itC is n q mn mx).size = 262 := by simp [itC]
theorem itC_0 (is : ByteArray) (n : Int) (q : Option Addr) (mn mx : Int) : (itC is n q mn mx)[0]? = some (.string is) := by kernel_rfl
theorem itC_257 (is : ByteArray) (n : Int) (q : Option Addr) (mn mx : Int) : (itC is n q mn mx)[257]? = some (.int .i64 n) := by kernel_rfl
theorem itC_258 (is : ByteArray) (n : Int) (q : Option Addr) (mn mx : Int) : (itC is n q mn mx)[258]? = some (.slice none 0 0) := by kernel_rfl
theorem itC_259 (is : ByteArray) (n : Int) (q : Option Addr) (mn mx : Int) : (itC is n q mn mx)[259]? = some (.pointer q) := by kernel_rfl
theorem itC_260 (is : ByteArray) (n : Int) (q : Option Addr) (mn mx : Int) : (itC is n q mn mx)[260]? = some (.int .i64 mn) := by kernel_rfl
theorem itC_261 (is : ByteArray) (n : Int) (q : Option Addr) (mn mx : Int) : (itC is n q mn mx)[261]? = some (.int .i64 mx) := by kernel_rfl
/-- a place in the set -/
theorem itC_set (is : ByteArray) (n : Int) (q : Option Addr) (mn mx : Int) (c : Nat) (h : c < 256) : (itC is n q mn mx)[1 + c]? = some (.bool false) := by
  unfold itC
  rw [Array.getElem?_append_left (by simp; omega), Array.getElem?_append_right (by simp)]
  simp [h]

section
variable {ops : Array Oper} {rest : List Oper} {o : Oper} {a : Act} {w : World} {Q : Exit → Act → World → Prop}
theorem wp_b0 (is : ByteArray) (hg : o.guard = none) (ho : o.op = .build 123 #[(0, .const (.string is))])
    (h : wpList Tryd.prog ops Q rest (a.put o.dst (.agg (itC is 0 none 0 0))) w) : wpList Tryd.prog ops Q (o :: rest) a w := by
  refine wpList_plain hg fun K hK => ?_
  unfold Oper.wp execOp
  simp only [ho, Sem.run_bind]
  rw [show (#[(0, Operand.const (.string is))].map fun (x : Nat × Operand) => (x.1, a.eval x.2)) = #[(0, .string is)] from by kernel_rfl, run_b0]
  exact hK _ _ h
theorem wp_b2 (is : ByteArray) (x : Operand) (n : Int) (hg : o.guard = none) (ho : o.op = .build 123 #[(0, .const (.string is)), (2, x)]) (hx : a.eval x = .int .i64 n)
    (h : wpList Tryd.prog ops Q rest (a.put o.dst (.agg (itC is n none 0 0))) w) : wpList Tryd.prog ops Q (o :: rest) a w := by
  refine wpList_plain hg fun K hK => ?_
  unfold Oper.wp execOp
  simp only [ho, Sem.run_bind]
  rw [show (#[(0, Operand.const (.string is)), (2, x)].map fun (x : Nat × Operand) => (x.1, a.eval x.2)) = #[(0, .string is), (2, a.eval x)] from by kernel_rfl, hx, run_b2]
  exact hK _ _ h
theorem wp_b46 (is : ByteArray) (x : Operand) (q : Option Addr) (mx : Int) (hg : o.guard = none) (ho : o.op = .build 123 #[(0, .const (.string is)), (4, x), (6, .const (.int .i64 mx))]) (hx : a.eval x = .pointer q)
    (h : wpList Tryd.prog ops Q rest (a.put o.dst (.agg (itC is 0 q 0 mx))) w) : wpList Tryd.prog ops Q (o :: rest) a w := by
  refine wpList_plain hg fun K hK => ?_
  unfold Oper.wp execOp
  simp only [ho, Sem.run_bind]
  rw [show (#[(0, Operand.const (.string is)), (4, x), (6, .const (.int .i64 mx))].map fun (x : Nat × Operand) => (x.1, a.eval x.2)) = #[(0, .string is), (4, a.eval x), (6, .int .i64 mx)] from by kernel_rfl, hx, run_b46]
  exact hK _ _ h
theorem wp_b456 (is : ByteArray) (x y z : Operand) (q : Option Addr) (mn mx : Int) (hg : o.guard = none) (ho : o.op = .build 123 #[(0, .const (.string is)), (4, x), (5, y), (6, z)]) (hx : a.eval x = .pointer q) (hy : a.eval y = .int .i64 mn) (hz : a.eval z = .int .i64 mx)
    (h : wpList Tryd.prog ops Q rest (a.put o.dst (.agg (itC is 0 q mn mx))) w) : wpList Tryd.prog ops Q (o :: rest) a w := by
  refine wpList_plain hg fun K hK => ?_
  unfold Oper.wp execOp
  simp only [ho, Sem.run_bind]
  rw [show (#[(0, Operand.const (.string is)), (4, x), (5, y), (6, z)].map fun (x : Nat × Operand) => (x.1, a.eval x.2)) = #[(0, .string is), (4, a.eval x), (5, a.eval y), (6, a.eval z)] from by kernel_rfl, hx, hy, hz, run_b456]
  exact hK _ _ h
theorem wp_bx (x : Operand) (is : ByteArray) (n : Int) (q : Option Addr) (mn mx : Int) (hg : o.guard = none) (ho : o.op = .box 123 x) (hx : a.eval x = .agg (itC is n q mn mx))
    (h : wpList Tryd.prog ops Q rest (a.put o.dst (.pointer (some ⟨w.heap.size, 0, none⟩))) (w.alloc (.cells (itC is n q mn mx) 123))) : wpList Tryd.prog ops Q (o :: rest) a w := by
  refine wpList_plain hg fun K hK => ?_
  unfold Oper.wp execOp
  simp only [ho, Sem.run_bind]
  rw [hx, run_bx]
  exact hK _ _ h
end

set_option maxHeartbeats 800000 in
theorem byteItem_any (c : Nat) (w : World) (hc : c < 256) :
    Calls Tryd.prog 73 #[.int .u8 c] w fun e w' => e = .returned (.pointer (some ⟨w.heap.size, 0, none⟩)) ∧ ∃ arr, w' = w.alloc (.cells arr 123) ∧ arr.size = 262 ∧ arr[0]? = some (.string ⟨#[98, 121, 116, 101]⟩) := by
  have hs := itC_set ⟨#[98, 121, 116, 101]⟩ 0 none 0 0 c hc
  go_enter Tryd.func73, Tryd.ntmps73
  go_wp2_with (first | refine wp_b0 ⟨#[98, 121, 116, 101]⟩ rfl rfl ?_ | refine wp_bx (.tmp 4) ⟨#[98, 121, 116, 101]⟩ 0 none 0 0 rfl rfl rfl ?_)
  go_ret
  exact ⟨rfl, _, rfl, by simp [itC_size], by rw [Array.getElem?_setIfInBounds_ne (by omega)]; exact itC_0 _ _ _ _ _⟩
end Go.Proofs.YtldiemjlpnachaaDoor
