import Derived.Test.YtldiemjlpnachaaDoorCards
import Derived.Test.YtldiemjlpnachaaDoorTie
import Derived.Test.YtldiemjlpnachaaDoorLaid
import Derived.Test.YtldiemjlpnachaaDoorOw
import Derived.ProofKit
import Derived.ChangeMaps5
import Derived.OpenShut
import Derived.Deep.DeepHandedRow
namespace Go.Proofs.YtldiemjlpnachaaDoor.owned
open Go.ChangeShapes Go.WideShapes Go.ChangeAt Go.RowKit
theorem own:ownKnob Tryd.prog.godebug=none:=by kernel_rfl
set_option maxRecDepth 100000 in
theorem contract(H:Type)(enc:TypeId×Value→H)(W:World)(base:Nat)(args:Array Value)(ds gs:List (DataW H))(before:List MemPlace)
  (hval:∀(j:Nat) t v,Tryd.f7.params[j]?=some t→args[j]?=some v→Value.okWide Tryd.prog W .any base t v)
  (hW:DataW.Whole enc Tryd.prog Tryd.f7.params.toList Rows.ownedSpec.vars false W args.toList ds gs before)(hL:laidMetH Tryd.prog Rows.ownedRow.laid W):
  Calls Tryd.prog 7 args W fun e W'=>∃v,e= .returned v∧Rows.ownedSpec.post enc Tryd.prog Tryd.f7 false true false false W args v W':=by
 have hW':=hW
 obtain⟨p,q,hA0,hV,rfl,hfz,hnd⟩:=hW
 have hA:DataW.TrodAll enc Tryd.prog W 0 (fun _=>true) true Tryd.f7.params.toList args.toList ds p:=hA0
 rw[Tryd.params7]at hA hval
 obtain⟨v0,vs0,d0,ds0,p0,q0,hargs,rfl,rfl,h0,r0⟩:=trodAll_cons hA
 obtain⟨v1,vs1,d1,ds1,p1,q1,hargs1,rfl,rfl,h1,r1⟩:=trodAll_cons r0
 obtain⟨v2,vs2,d2,ds2,p2,q2,hargs2,rfl,rfl,h2,r2⟩:=trodAll_cons r1
 obtain⟨rfl,rfl,rfl⟩:=trodAll_nil r2
 obtain rfl:args= #[v0,v1,v2]:=by cases args;simp_all
 obtain⟨rfl,rfl⟩:=trodVars_none hV
 obtain⟨c,rfl,rfl,rfl,hwf⟩:=Go.ChangeMaps.open_string uString (hval 0 9 v0 (by rfl) (by rfl)) h0
 obtain⟨c1,rfl,rfl,rfl,hwf1⟩:=Go.ChangeMaps.open_string uString (hval 1 9 v1 (by rfl) (by rfl)) h1
 obtain⟨c2,rfl,rfl,rfl,hwf2⟩:=Go.ChangeMaps.open_string uString (hval 2 9 v2 (by rfl) (by rfl)) h2
 clear hA0
 simp only[List.append_nil]at hW'
 refine(owned_any c c1 c2 W (names_of_laid hL) (classes_of_laid hL) hwf hwf1 hwf2).mono fun e W' ⟨he,hg⟩=>?_
 subst he
 refine⟨_,rfl,_,[],[],[],[],[],hW',?_,?_,?_,?_,fun h=>by cases h⟩
 ·exact trodAll_cons_mk (shut_bool Tryd.underlying4 _) trodAll_mk0
 ·exact trodAll_cons_mk (Go.ChangeMaps.shut_string uString hwf) (trodAll_cons_mk (Go.ChangeMaps.shut_string uString hwf1) (trodAll_cons_mk (Go.ChangeMaps.shut_string uString hwf2) trodAll_mk0))
 ·rfl
 ·exact World.keptBut_mono (fun p hp=>by cases hp) (hg.frame (fun _=>False))
noncomputable def laidWorld(os:Os):World:=
 {World.holding Tryd.prog os ⟨#[],#[],[]⟩with heap:=(((World.holding Tryd.prog os ⟨#[],#[],[]⟩).heap.modify 1 (layObj (nameTexts.map fun z=>Value.string ⟨z.toArray⟩).toArray)).modify 0 (layObj (clsTexts.flatten.map fun z=>Value.string ⟨z.toArray⟩).toArray))}
theorem laid_met(os:Os):laidMet Tryd.prog Rows.ownedRow.laid ((laidWorld os).forCall (fun _ _=>0) ⟨#[],#[.string ⟨#[]⟩,.string ⟨#[]⟩,.string ⟨#[]⟩],[]⟩).memory:=
 laidMet_of_run' 8 (by kernel_rfl) (by kernel_rfl)
theorem reads(os:Os){H:Type}(enc:TypeId×Value→H):∃places,DataW.whole enc Tryd.prog ((laidWorld os).forCall (fun _ _=>0) ⟨#[],#[.string ⟨#[]⟩,.string ⟨#[]⟩,.string ⟨#[]⟩],[]⟩).memory Tryd.f7.params.toList Rows.ownedSpec.vars false #[Value.string ⟨#[]⟩,.string ⟨#[]⟩,.string ⟨#[]⟩].toList 8=some ([.lit (.string []),.lit (.string []),.lit (.string [])],[],places):=
 ⟨[],by kernel_rfl⟩
set_option maxRecDepth 100000 in
theorem lifted(os:Os)(started:os.Started)(H:Type)(enc:TypeId×Value→H)(F:Stop.Interp):
  ReturnsInHanded {} Tryd.checked os 7 .any ((OpenSpec.ofChange Rows.ownedSpec).preRow enc Tryd.prog Tryd.f7 Rows.ownedRow.domain false Rows.ownedRow.laid) (((OpenSpec.ofChange Rows.ownedSpec).at F).post enc Tryd.prog Tryd.f7 false true false false):=by
 obtain⟨places,hx⟩:=reads os enc
 refine returnsInHanded_of_row (C:=Tryd.checked) (s:=OpenSpec.ofChange Rows.ownedSpec) own started (by kernel_rfl) Tryd.func7
  (witness_row_at (enc:=enc) (C:=Tryd.checked) false (laidWorld os) #[.string ⟨#[]⟩,.string ⟨#[]⟩,.string ⟨#[]⟩] rfl (by kernel_rfl) (by kernel_rfl) (by kernel_rfl)
   (OpenSpec.preRow_of_cond 8 hx (by kernel_rfl) (fun k hk=>by cases hk) (by kernel_rfl) (laid_met os))) ?_
 intro W base args ds gs before hval hW _ _ _ hL _ _
 exact contract H enc W base args ds gs before hval hW hL
theorem said:Rows.OwnedSaid:=
 OpenClaim.holds_of_cond 7 Tryd.f7 rfl rfl rfl rfl rfl rfl rfl ⟨rfl,rfl,rfl,rfl,rfl⟩ rfl rfl rfl rfl rfl (by kernel_rfl) Tryd.func7 (by kernel_rfl)
  (of_decide_eq_true (by kernel_rfl)) (by unfold Func.isWrapper;first|(rw[if_pos (by decide+kernel)];kernel_rfl)|(rw[if_neg (by decide+kernel)];exact⟨rfl,rfl⟩))
  (fun os started H enc _ F=>by rw[OpenClaim.pre_eq_preRow];exact lifted os started H enc F)
theorem plain(f:FuncId)(fn:Func)(hf:Tryd.pinned.checked.prog.funcNamed "bre/brelaw.Owned" =some f)(hfn:Tryd.pinned.checked.prog.funcs[f]?=some fn):
  false=Tryd.pinned.checked.prog.looks []∧∀(j:Nat) t,fn.params[j]?=some t→Tryd.pinned.checked.prog.wantsStandIn t=false:=by
 obtain rfl:f=7:=Option.some.inj ((show Tryd.prog.funcNamed "bre/brelaw.Owned" =some 7 by kernel_rfl).symm.trans hf)|>.symm
 obtain rfl:fn=Tryd.f7:=(Option.some.inj (Tryd.func7.symm.trans hfn)).symm
 refine⟨by kernel_rfl,fun j t ht=>?_⟩
 rw[Tryd.params7]at ht
 have ht':=Array.mem_of_getElem? ht
 simp only[List.mem_toArray,List.mem_cons,List.not_mem_nil,or_false]at ht'
 rcases ht' with rfl|rfl|rfl<;>exact(show Tryd.prog.wantsStandIn 9=false by kernel_rfl)
end Go.Proofs.YtldiemjlpnachaaDoor.owned
namespace Go.Proofs.YtldiemjlpnachaaDoor
theorem owned_holds:Rows.OwnedCardSaid:=
 Claim7.holds_tied_plain_at .later [] _ _ _ _ owned.said (fun _ h=>by cases h) (by kernel_rfl) (fun _ h=>by cases h) owned_row_tie rfl ⟨rfl,rfl⟩ (by kernel_rfl) rfl owned.plain (by kernel_rfl)
end Go.Proofs.YtldiemjlpnachaaDoor
