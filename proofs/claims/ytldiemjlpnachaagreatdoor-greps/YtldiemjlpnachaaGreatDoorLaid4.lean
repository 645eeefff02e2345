import Derived.Test.YtldiemjlpnachaaGreatDoorLaid
import Derived.Test.YtldiemjlpnachaaGreatDoorGr
import Derived.LaidSub
namespace Go.Proofs.YtldiemjlpnachaaGreatDoor
open Go.RowKit
theorem gPowType:(Tryz.prog.globals[0]?).map (·.type)=some 154:=by kernel_rfl
theorem uPow:Tryz.prog.underlying 154=some (.array 20 130):=by kernel_rfl
theorem uPow2:Tryz.prog.underlying 130=some (.int .u64):=by kernel_rfl
theorem cPow:Tryz.prog.cellsOf 154=20:=by kernel_rfl
theorem cPow2:Tryz.prog.cellsOf 130=1:=by kernel_rfl
def cellsD:DataW Unit->Array Value
 | .agg l=>(l.map fun
  | .lit (.int k z)=>Value.int k z
  | .lit (.string s)=>Value.string ⟨s.toArray⟩
  |_=>Value.bool false).toArray
 |_=> #[]
def layC(d:DataW Unit):Obj->Obj
 | .cells _ t frozen=> .cells (cellsD d) t frozen
 |o=>o
end Go.Proofs.YtldiemjlpnachaaGreatDoor
namespace Go.Proofs.YtldiemjlpnachaaGreatDoor
open Go.RowKit
def rows5:List (String×DataW Unit):= [("bre/syntax.classNames",Rows.laid_bre_syntax_classNames),("math/bits.deBruijn32tab",Rows.laid_math_bits_deBruijn32tab),("math/bits.deBruijn64tab",Rows.laid_math_bits_deBruijn64tab),("internal/strconv.uint64pow10",Rows.laid_internal_strconv_uint64pow10),("bre/breref.classes",Rows.laid_bre_breref_classes)]
theorem rows5_pow:rows5.filter (fun x=>x.1== "internal/strconv.uint64pow10")= [("internal/strconv.uint64pow10",Lib.tabData .u64 Lib.pow10Tab)]:=by kernel_rfl
theorem rows5_cls:rows5.filter (fun x=>x.1== "bre/syntax.classNames" ||x.1== "bre/breref.classes")= [("bre/syntax.classNames",Rows.laid_bre_syntax_classNames),("bre/breref.classes",Rows.laid_bre_breref_classes)]:=by kernel_rfl
theorem tb_of_laid5{W:World}(h:laidMet Tryz.prog rows5 W):Tb W:=by
 have h1:=h.filter (fun x=>x.1== "internal/strconv.uint64pow10")
 rw[rows5_pow]at h1
 exact Lib.tabIs_of_head gTb gPowType uPow uPow2 cPow2 cPow h1
theorem cls_of_laid5{W:World}(h:laidMet Tryz.prog rows5 W):ClsW W:=by
 have h1:=h.filter (fun x=>x.1== "bre/syntax.classNames" ||x.1== "bre/breref.classes")
 rw[rows5_cls]at h1
 exact classes_of_laid h1
noncomputable def laidWorld5(os:Os):World:=
 {World.holding Tryz.prog os ⟨#[],#[],[]⟩with heap:=(((((World.holding Tryz.prog os ⟨#[],#[],[]⟩).heap.modify 4 (layC Rows.laid_bre_syntax_classNames)).modify 2 (layC Rows.laid_math_bits_deBruijn32tab)).modify 3 (layC Rows.laid_math_bits_deBruijn64tab)).modify 0 (layC Rows.laid_internal_strconv_uint64pow10)).modify 1 (layObj (clsTexts.flatten.map fun z=>Value.string ⟨z.toArray⟩).toArray)}
end Go.Proofs.YtldiemjlpnachaaGreatDoor
