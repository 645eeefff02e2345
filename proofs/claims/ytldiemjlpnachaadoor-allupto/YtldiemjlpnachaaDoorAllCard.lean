import Derived.Test.YtldiemjlpnachaaDoorCards
import Derived.Test.YtldiemjlpnachaaDoorTie
import Derived.Test.YtldiemjlpnachaaDoorLaid
import Derived.Test.YtldiemjlpnachaaDoorTl
import Derived.ProofKit
import Derived.ChangeMaps5
import Derived.OpenShut
import Derived.SliceStrings
import Derived.Carry
import Derived.Deep.DeepHandedRow
namespace Go.Proofs.YtldiemjlpnachaaDoor.all
open Go.ChangeShapes Go.WideShapes Go.ChangeAt Go.RowKit
theorem own:ownKnob Tryd.prog.godebug=none:=by kernel_rfl
theorem bulk_str{H:Type}:∀(ss:List ByteArray) (s:ByteArray),s∈ss→s.size≤Rows.uptoBulkAll (strs (H:=H) ss)
 |x::r,s,h=>by
  have e:Rows.uptoBulkAll (strs (H:=H) (x::r))=(x.data.toList.length+1)+Rows.uptoBulkAll (strs (H:=H) r):=by simp only[strs,List.map_cons,Rows.uptoBulkAll,Rows.uptoBulk]
  rw[e,len_data]
  rcases List.mem_cons.1 h with rfl|h
  ·omega
  ·have:=bulk_str (H:=H) r s h;omega
theorem cells_str:Tryd.prog.cellsOf 9=1:=by kernel_rfl
theorem uStrs:Tryd.prog.underlying 43=some (.slice 9):=by kernel_rfl
theorem laidOut:laidOutB Tryd.prog=true:=by kernel_rfl
theorem readStrs:Tryd.prog.readableRec 43=true:=by kernel_rfl
theorem strsLt:43<Tryd.prog.types.size:=by decide+kernel
theorem open_list{H:Type}{enc:TypeId×Value→H}{W:World}{v:Value}{d:DataW H}{p:List MemPlace}(hv:∃a len cap,v= .slice a len cap)(h:DataW.Trod enc Tryd.prog W 0 (fun _=>true) true 43 v d p):
  ∃(pa:Option Addr) (pc:Nat) (ss:List ByteArray),v= .slice pa ss.length pc∧ss.length≤maxLen∧(∀i (hi:i<ss.length),∃a,pa=some a∧W.cell? (a.add i)=some (.string ss[i])∧ss[i].size≤maxLen)∧∀s∈ss,s.size≤Rows.uptoBulk d:=by
 obtain⟨a0,len,cap,rfl⟩:=hv
 obtain⟨fuel,hf⟩:=h
 rcases open_strings uStrs uString cells_str hf with⟨hcs,hx⟩|⟨a,len',cap',ss,hcs,_,hl,hm,hz,hx,hcell,hws⟩
 ·simp[Value.cells]at hcs
  obtain⟨rfl,rfl,rfl⟩:=hcs
  exact⟨none,0,[],rfl,Nat.zero_le _,fun i hi=>absurd hi (Nat.not_lt_zero _),fun s h=>by cases h⟩
 ·simp[Value.cells]at hcs
  obtain⟨rfl,rfl,rfl⟩:=hcs
  simp only[Prod.mk.injEq]at hx
  obtain⟨rfl,rfl⟩:=hx
  simp only[if_true]at hz
  have htk:(ss.take len).length=len:=by simp;omega
  refine⟨some a,cap,ss.take len,by rw[htk],by rw[htk];omega,fun i hi=>⟨a,rfl,?_,hws _ (List.mem_of_mem_take (List.getElem_mem hi))⟩,fun s h=>?_⟩
  ·have hi2:i<ss.length:=by omega
   rw[hcell i hi2,List.getElem_take,List.getD_eq_getElem?_getD,List.getElem?_eq_getElem hi2]
   rfl
  ·have:=bulk_str (H:=H) _ s h
   simp only[Rows.uptoBulk]
   omega
set_option maxRecDepth 100000 in
theorem contract(H:Type)(enc:TypeId×Value→H)(W:World)(base:Nat)(args:Array Value)(ds gs:List (DataW H))(before:List MemPlace)
  (hval:∀(j:Nat) t v,Tryd.f8.params[j]?=some t→args[j]?=some v→Value.okWide Tryd.prog W .any base t v)
  (hW:DataW.Whole enc Tryd.prog Tryd.f8.params.toList Rows.allSpec.vars false W args.toList ds gs before)(hk:Rows.uptoSmall H (ds++gs)=true)(hL:laidMetH Tryd.prog Rows.allUptoRow.laid W):
  Calls Tryd.prog 8 args W fun e W'=>∃v,e= .returned v∧Rows.allSpec.post enc Tryd.prog Tryd.f8 false true false false W args v W':=by
 have hW':=hW
 obtain⟨p,q,hA0,hV,rfl,hfz,hnd⟩:=hW
 have hA:DataW.TrodAll enc Tryd.prog W 0 (fun _=>true) true Tryd.f8.params.toList args.toList ds p:=hA0
 rw[Tryd.params8]at hA hval
 obtain⟨v0,vs0,d0,ds0,p0,q0,hargs,rfl,rfl,h0,r0⟩:=trodAll_cons hA
 obtain⟨v1,vs1,d1,ds1,p1,q1,hargs1,rfl,rfl,h1,r1⟩:=trodAll_cons r0
 obtain⟨v2,vs2,d2,ds2,p2,q2,hargs2,rfl,rfl,h2,r2⟩:=trodAll_cons r1
 obtain⟨rfl,rfl,rfl⟩:=trodAll_nil r2
 obtain rfl:args= #[v0,v1,v2]:=by cases args;simp_all
 obtain⟨rfl,rfl⟩:=trodVars_none hV
 have h0k:=h0
 have h1k:=h1
 obtain⟨pa,pc,ps,rfl,hpl,hpa,_⟩:=open_list (okWide_slice uStrs (hval 0 43 v0 (by rfl) (by rfl))) h0
 obtain⟨la,lc,ls,rfl,hll,hla,hlb⟩:=open_list (okWide_slice uStrs (hval 1 43 v1 (by rfl) (by rfl))) h1
 obtain⟨c2,rfl,rfl,rfl,hwf2⟩:=open_int Tryd.underlying3 (hval 2 3 v2 (by rfl) (by rfl)) h2
 have hb2: -9223372036854775808≤c2∧c2≤9223372036854775807:=by
  have h:=hwf2
  simp only[Lit.wf,Bool.and_eq_true,decide_eq_true_eq]at h
  exact h
 have hbulk:Rows.uptoBulk d1≤1048576:=by
  have h:=of_decide_eq_true hk
  simp only[List.append_nil,Rows.uptoBulkAll]at h
  omega
 clear hA0
 simp only[List.append_nil]at hW'
 have hlt:=hW'.lt
 refine(all_law W pa la pc lc ps ls c2 (names_of_laid hL) (classes_of_laid hL) hpa (fun i hi=>by obtain⟨a,x1,x2,_⟩:=hla i hi;exact⟨a,x1,x2,by have:=hlb _ (List.getElem_mem hi);omega⟩) hb2.2 hpl hll).mono fun e W' ⟨he,hg⟩=>?_
 subst he
 refine⟨_,rfl,_,[],_,[],p0++(p1++ []),[],hW',?_,?_,?_,?_,fun h=>by cases h⟩
 ·exact trodAll_cons_mk (shut_bool Tryd.underlying4 _) trodAll_mk0
 ·exact trodAll_cons_mk (Below.trod laidOut readStrs strsLt h0k hg (fun x hx=>hlt x (by simp[hx]))) (trodAll_cons_mk (Below.trod laidOut readStrs strsLt h1k hg (fun x hx=>hlt x (by simp[hx]))) (trodAll_cons_mk (shut_int Tryd.underlying3 hwf2) trodAll_mk0))
 ·rfl
 ·exact World.keptBut_mono (fun p hp=>by cases hp) (hg.frame (fun _=>False))
noncomputable def laidWorld(os:Os):World:=
 {World.holding Tryd.prog os ⟨#[],#[],[]⟩with heap:=(((World.holding Tryd.prog os ⟨#[],#[],[]⟩).heap.modify 1 (layObj (nameTexts.map fun z=>Value.string ⟨z.toArray⟩).toArray)).modify 0 (layObj (clsTexts.flatten.map fun z=>Value.string ⟨z.toArray⟩).toArray))}
theorem laid_met(os:Os):laidMet Tryd.prog Rows.allUptoRow.laid ((laidWorld os).forCall (fun _ _=>0) ⟨#[],#[.slice none 0 0,.slice none 0 0,.int .i64 0],[]⟩).memory:=
 laidMet_of_run' 8 (by kernel_rfl) (by kernel_rfl)
theorem reads(os:Os){H:Type}(enc:TypeId×Value→H):∃places,DataW.whole enc Tryd.prog ((laidWorld os).forCall (fun _ _=>0) ⟨#[],#[.slice none 0 0,.slice none 0 0,.int .i64 0],[]⟩).memory Tryd.f8.params.toList Rows.allSpec.vars false #[Value.slice none 0 0,.slice none 0 0,.int .i64 0].toList 8=some ([.nil,.nil,.lit (.int .i64 0)],[],places):=
 ⟨[],by kernel_rfl⟩
set_option maxRecDepth 100000 in
theorem lifted(os:Os)(started:os.Started)(H:Type)(enc:TypeId×Value→H)(F:Stop.Interp):
  ReturnsInHanded {} Tryd.checked os 8 .any ((Rows.OpenSpec.upto Rows.allSpec).preRow enc Tryd.prog Tryd.f8 Rows.allUptoRow.domain false Rows.allUptoRow.laid) (((Rows.OpenSpec.upto Rows.allSpec).at F).post enc Tryd.prog Tryd.f8 false true false false):=by
 obtain⟨places,hx⟩:=reads os enc
 refine returnsInHanded_of_row (C:=Tryd.checked) (s:=Rows.OpenSpec.upto Rows.allSpec) own started (by kernel_rfl) Tryd.func8
  (witness_row_at (enc:=enc) (C:=Tryd.checked) false (laidWorld os) #[.slice none 0 0,.slice none 0 0,.int .i64 0] rfl (by kernel_rfl) (by kernel_rfl) (by kernel_rfl)
   (OpenSpec.preRow_of_cond 8 hx (by kernel_rfl) (fun k hk=>by cases hk;kernel_rfl) (by kernel_rfl) (laid_met os))) ?_
 intro W base args ds gs before hval hW _ hcond _ hL _ _
 exact contract H enc W base args ds gs before hval hW (hcond _ rfl) hL
theorem said:Rows.AllUptoSaid:=
 OpenClaim.holds_of_cond 8 Tryd.f8 rfl rfl rfl rfl rfl rfl rfl ⟨rfl,rfl,rfl,rfl,rfl⟩ rfl rfl rfl rfl rfl (by kernel_rfl) Tryd.func8 (by kernel_rfl)
  (of_decide_eq_true (by kernel_rfl)) (by unfold Func.isWrapper;first|(rw[if_pos (by decide+kernel)];kernel_rfl)|(rw[if_neg (by decide+kernel)];exact⟨rfl,rfl⟩))
  (fun os started H enc _ F=>by rw[OpenClaim.pre_eq_preRow];exact lifted os started H enc F)
theorem plain(f:FuncId)(fn:Func)(hf:Tryd.pinned.checked.prog.funcNamed "bre/brelaw.All" =some f)(hfn:Tryd.pinned.checked.prog.funcs[f]?=some fn):
  false=Tryd.pinned.checked.prog.looks []∧∀(j:Nat) t,fn.params[j]?=some t→Tryd.pinned.checked.prog.wantsStandIn t=false:=by
 obtain rfl:f=8:=Option.some.inj ((show Tryd.prog.funcNamed "bre/brelaw.All" =some 8 by kernel_rfl).symm.trans hf)|>.symm
 obtain rfl:fn=Tryd.f8:=(Option.some.inj (Tryd.func8.symm.trans hfn)).symm
 refine⟨by kernel_rfl,fun j t ht=>?_⟩
 rw[Tryd.params8]at ht
 have ht':=Array.mem_of_getElem? ht
 simp only[List.mem_toArray,List.mem_cons,List.not_mem_nil,or_false]at ht'
 rcases ht' with rfl|rfl|rfl
 ·exact(show Tryd.prog.wantsStandIn 43=false by kernel_rfl)
 ·exact(show Tryd.prog.wantsStandIn 43=false by kernel_rfl)
 ·exact(show Tryd.prog.wantsStandIn 3=false by kernel_rfl)
end Go.Proofs.YtldiemjlpnachaaDoor.all
namespace Go.Proofs.YtldiemjlpnachaaDoor
theorem all_holds:Rows.AllUptoCardSaid:=
 Claim7.holds_tied_plain_at .later [] _ _ _ _ all.said (fun _ h=>by cases h) (by kernel_rfl) (fun _ h=>by cases h) allUpto_row_tie rfl ⟨rfl,rfl⟩ (by kernel_rfl) rfl all.plain (by kernel_rfl)
end Go.Proofs.YtldiemjlpnachaaDoor
