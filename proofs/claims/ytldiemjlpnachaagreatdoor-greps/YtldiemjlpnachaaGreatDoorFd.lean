import Derived.Test.YtldiemjlpnachaaGreatDoorDt
import Derived.Test.YtldiemjlpnachaaGreatDoorEv
import Derived.Test.YtldiemjlpnachaaGreatDoorRRead
import Derived.Laws.CopyOwn
set_option maxHeartbeats 6400000
set_option maxRecDepth 100000
namespace Go.Proofs.YtldiemjlpnachaaGreatDoor
open Go.RowKit
def mkA(k:Nat):List (Int×Int):=List.replicate k (-1,-1)++List.replicate (10-k) (0,0)
theorem mkA_set(k:Nat)(hk:k<10):(mkA k).set k (-1,-1)=mkA (k+1):=by
 rcases(show k=0\/k=1\/k=2\/k=3\/k=4\/k=5\/k=6\/k=7\/k=8\/k=9 by omega)with rfl|rfl|rfl|rfl|rfl|rfl|rfl|rfl|rfl|rfl<;>rfl
theorem mkA_len(k:Nat)(hk:k<=10):(mkA k).length=10:=by unfold mkA;simp;omega
theorem mkA_10:mkA 10=mk0:=rfl
theorem run_bgn(i:Nat)(w:World):(Instr.build 77 #[(0,.int .i64 i)]).run Tryz.prog w= .ok (.agg (stV (i,mkA 0))) w:=by kernel_rfl
section
variable {ops : Array Oper} {rest : List Oper} {o : Oper} {a : Act} {w : World} {Q : Exit → Act → World → Prop}
theorem wp_bgn(x:Operand)(i:Nat)(hg:o.guard=none)(ho:o.op= .build 77 #[(0,x)])(hx:a.eval x= .int .i64 i)(h:wpList Tryz.prog ops Q rest (a.put o.dst (.agg (stV (i,mkA 0)))) w):wpList Tryz.prog ops Q (o::rest) a w:=by
 refine wpList_plain hg fun K hK=>?_
 unfold Oper.wp execOp
 simp only[ho,Sem.run_bind]
 rw[show(#[(0,x)].map fun(x:Nat×Operand)=>(x.1,a.eval x.2))= #[(0,a.eval x)]from by kernel_rfl,hx,run_bgn]
 exact hK _ _ h
end
theorem bgn0(w:World)(Z C:Array Value)(t:TypeId):Below w.heap.size w (((w.alloc (.cells Z t)).alloc (.cells Z t)).setRow (w.heap.size+1) C)/\(((w.alloc (.cells Z t)).alloc (.cells Z t)).setRow (w.heap.size+1) C).heap[w.heap.size+1]?=some (.cells C t (0,0))/\(((w.alloc (.cells Z t)).alloc (.cells Z t)).setRow (w.heap.size+1) C).heap[w.heap.size]?=some (.cells Z t (0,0)):=by
 have e:(w.alloc (.cells Z t)).heap.size=w.heap.size+1:=by simp
 have h:=World.setRow_alloc_new (w.alloc (.cells Z t)) Z C t
 rw[e]at h
 rw[h]
 refine⟨(alloc_below w _).trans ((alloc_below _ _).mono (by simp)),?_,(Below.heap_alloc _ _ _ (by simp)).trans (heap_alloc_new w _)⟩
 rw[<-e]
 exact heap_alloc_new _ _
theorem begun_any(i:Nat)(w:World):
  Calls Tryz.prog 22 #[.int .i64 i] w fun e w'=>e= .returned (.agg (stV (i,mk0)))/\Below w.heap.size w w':=by
 have Hu:=hd und_state.choose_spec
 go_enter Tryz.func22,Tryz.ntmps22
 go_wp2_with (first
  |refine wp_bgn (.tmp 5) i rfl rfl (by rfl) ?_
  |(refine wpList_store_row rfl 77 (.tmp 3) (.tmp 6) rfl (w.heap.size+1) (stV (i,mkA 0)) (by rfl) (by rfl) 77 _ (heap_alloc2_new _ _ _) info_state rfl (stV_one _) ?_))
 obtain⟨Z,hZ⟩:∃Z:Array Value,Z= #[.int .i64 0,.int .i64 0,.int .i64 0,.int .i64 0,.int .i64 0,.int .i64 0,.int .i64 0,.int .i64 0,.int .i64 0,.int .i64 0,.int .i64 0,.int .i64 0,.int .i64 0,.int .i64 0,.int .i64 0,.int .i64 0,.int .i64 0,.int .i64 0,.int .i64 0,.int .i64 0,.int .i64 0]:=⟨_,rfl⟩
 have H1:=hd (bgn0 w Z (stV (i,mkA 0)) 77)
 have hZs:Z.size=21:=by rw[hZ];rfl
 rw[<-hZ]
 clear hZ
 generalize ((w.alloc (.cells Z 77)).alloc (.cells Z 77)).setRow (w.heap.size+1) (stV (i,mkA 0))=W0 at*
 obtain⟨R,hR⟩:∃R,w.heap.size=R:=⟨_,rfl⟩
 have HRr:=hd hR
 rw[hR]at H1
 simp only[hR]
 clear hR
 go_loopg [4,7] 11 (fun f _ kv wr=>∃k:Nat,kv= .int .i64 k/\k<=10/\10<k+f/\Hid (Below R w wr)/\Hid (wr.heap[R+1]?=some (.cells (stV (i,mkA k)) 77 (0,0)))/\Hid (wr.heap[R]?=some (.cells Z 77 (0,0))))
 case atStart=>exact⟨0,rfl,by omega,by omega,hd H1.out.1,hd H1.out.2.1,hd H1.out.2.2⟩
 case round=>
  clear H1
  obtain⟨k,rfl,hk,hkf,HB,HS,HZ⟩:=hrel
  by_cases hlt:k<10
  ·have cg0:wr.cell? ⟨R+1,1+k*2,none⟩=some (.int .i64 (ga (i,mkA k) k)):=by
    rw[cell_of_row _ _ _ _ _ _ HS.out];exact(stV_ga _ k hlt).1
   have cg1:wr.cell? ⟨R+1,1+k*2+1,none⟩=some (.int .i64 (gb (i,mkA k) k)):=by
    rw[cell_of_row _ _ _ _ _ _ HS.out];exact(stV_ga _ k hlt).2
   have fz:∀j,wr.frozen? ⟨R+1,j,none⟩=false:=fun j=>by
    unfold World.frozen?
    rw[HS.out]
    simp
   have hk0:(0:Int)<=(k:Int):=by omega
   have hk1:(k:Int)<10:=by omega
   obtain⟨gf,rfl⟩:∃gf,gk=gf+1:=⟨gk-1,by omega⟩
   go_wp2
   have HB2:Hid (Below R w ((wr.setCell ⟨R+1,1+k*2,none⟩ (.int .i64 (-1))).setCell ⟨R+1,1+k*2+1,none⟩ (.int .i64 (-1)))):=hd ((HB.out.setCell (p:=⟨R+1,1+k*2,none⟩) (by show R<=R+1;omega) _).setCell (p:=⟨R+1,1+k*2+1,none⟩) (by show R<=R+1;omega) _)
   have HS2:Hid (((wr.setCell ⟨R+1,1+k*2,none⟩ (.int .i64 (-1))).setCell ⟨R+1,1+k*2+1,none⟩ (.int .i64 (-1))).heap[R+1]?=some (.cells (stV (i,mkA (k+1))) 77 (0,0))):=hd (by
    have h1:=heap_setCell_self (i:=1+k*2) HS.out (.int .i64 (-1))
    have h2:=heap_setCell_self (i:=1+k*2+1) h1 (.int .i64 (-1))
    rw[stV_span (i,mkA k) k hlt (mkA_len k (by omega))]at h2
    simp only[mkA_set k hlt]at h2
    exact h2)
   have HZ2:Hid (((wr.setCell ⟨R+1,1+k*2,none⟩ (.int .i64 (-1))).setCell ⟨R+1,1+k*2+1,none⟩ (.int .i64 (-1))).heap[R]?=some (.cells Z 77 (0,0))):=hd (by
    rw[Below.heap_setCell _ _ _ _ (by show R≠R+1;omega),Below.heap_setCell _ _ _ _ (by show R≠R+1;omega)]
    exact HZ.out)
   go_roundg gf
   case measure=>omega
   case rel=>exact⟨k+1,by go_num,by omega,by omega,HB2,HS2,HZ2⟩
  ·obtain rfl:k=10:=by omega
   have HRg:Hid (wr.rangeAt (R+1) 0 (stL (i,mk0))):=hd (by
    have:=World.rangeAt_of_block HS.out 0 21
    rw[mkA_10,show((stV (i,mk0)).extract 0 (0+21)).toList=stL (i,mk0) by kernel_rfl]at this
    exact this)
   go_wp2_with (first
    |refine wpList_load_mid rfl 77 (.tmp 3) rfl (R+1) 0 (by rfl) (stL (i,mk0)) _ HRg.out Hu.out rfl info_state ?_
    |(refine wpList_store_row rfl 77 (.tmp 2) (.tmp 15) rfl R (stV (i,mk0)) (by rfl) (by rfl) 77 Z HZ.out info_state hZs (stV_one _) ?_))
   have hrow:=setRow_heap wr R Z (stV (i,mk0)) _ _ HZ.out
   have HF:Hid (Below w.heap.size w (wr.setRow R (stV (i,mk0)))):=hd (by rw[HRr.out];exact below_setRow HB.out (Nat.le_refl _) _)
   refine bodyPost_ret (v:= .agg (stV (i,mk0))) (results_cell_row rfl _ _ R _ (stV (i,mk0)) _ _ rfl hrow Hu.out rfl info_state) rfl ?_
   exact⟨rfl,HF.out⟩
end Go.Proofs.YtldiemjlpnachaaGreatDoor
namespace Go.Proofs.YtldiemjlpnachaaGreatDoor
open Go.RowKit
theorem stepT_nine{l:List UInt8}{σ σ':St}(h:∀n∈σ.refl,n<=9)(hs:stepT l σ=(0,σ')):∀n∈σ'.refl,n<=9:=by
 unfold stepT at hs
 split at hs
 ·unfold escT at hs
  split at hs
  ·simp at hs
  ·split at hs
   ·unfold openT at hs
    split at hs
    ·simp at hs
    ·simp only[Prod.mk.injEq,true_and]at hs
     subst hs
     exact h
   ·split at hs
    ·unfold closeT at hs
     split at hs
     ·simp at hs
     ·simp only[Prod.mk.injEq,true_and]at hs
      subst hs
      exact h
    ·split at hs
     ·unfold ivT at hs
      split at hs
      ·simp at hs
      ·split at hs
       ·simp at hs
       ·simp only[Prod.mk.injEq,true_and]at hs
        subst hs
        exact h
     ·split at hs
      ·rename_i hdg
       unfold refT at hs
       split at hs
       ·simp at hs
       ·split at hs
        ·simp only[Prod.mk.injEq,true_and]at hs
         subst hs
         exact h
        ·split at hs
         ·simp at hs
         ·simp only[Prod.mk.injEq,true_and]at hs
          subst hs
          intro n hn
          have hn':n∈σ.refl++ [ch l (σ.pos+1)-48]:=hn
          rcases List.mem_append.1 hn' with h1|h1
          ·exact h n h1
          ·rw[List.mem_singleton]at h1
           omega
      ·split at hs
       ·simp only[Prod.mk.injEq,true_and]at hs
        subst hs
        exact h
       ·simp at hs
 ·split at hs
  ·unfold brkT at hs
   split at hs
   ·simp only[Prod.mk.injEq,true_and]at hs
    subst hs
    exact h
   ·rename_i he
    simp only[Prod.mk.injEq]at hs
    exact absurd hs.1 he
  ·split at hs
   ·simp only[Prod.mk.injEq,true_and]at hs
    subst hs
    exact h
   ·split at hs
    ·simp only[Prod.mk.injEq,true_and]at hs
     subst hs
     exact h
    ·split at hs
     ·simp only[Prod.mk.injEq,true_and]at hs
      subst hs
      exact h
     ·split at hs
      ·simp only[Prod.mk.injEq,true_and]at hs
       subst hs
       exact h
      ·simp only[Prod.mk.injEq,true_and]at hs
       subst hs
       exact h
theorem goT_nine{l:List UInt8}:∀(f:Nat) {σ:St},(∀n∈σ.refl,n<=9)->(goT l f σ).1=0->∀n∈(goT l f σ).2.refl,n<=9
 |0,_,h,_=>h
 |f+1,σ,h,he=>by
  by_cases hp:σ.pos<l.length
  ·obtain⟨e,σ',hst⟩:∃e σ',stepT l σ=(e,σ'):=⟨_,_,rfl⟩
   by_cases h0:e=0
   ·subst h0
    rw[goT_more hp hst]at he ⊢
    exact goT_nine f (stepT_nine h hst) he
   ·rw[goT_err hp (by rw[hst];exact h0),hst]at he
    exact absurd he h0
  ·rw[goT_out hp]
   exact h
theorem refT_nine{l:List UInt8}(h:(parseT l).1=0):∀n∈refT0 l,n<10:=by
 have hg:=parseR_go (r:=goT l 61 st0) h
 have:=goT_nine (l:=l) 61 (σ:=st0) (fun n hn=>by simp[st0]at hn) hg
 intro n hn
 unfold refT0 refR at hn
 split at hn
 ·have:=this n hn;omega
 ·simp at hn
def usedB(rf:List Nat)(i:Nat):Bool:=rf.contains i
theorem cnt_used{rf:List Nat}(h10:∀n∈rf,n<10):(cnt (usedB rf) 10=0↔rf= []):=by
 have key:∀k,cnt (usedB rf) k=0↔∀i,i<k->usedB rf i=false:=by
  intro k
  induction k with
  |zero=>simp[cnt]
  |succ k ih=>
   rw[cnt]
   constructor
   ·intro h i hi
    have h1:cnt (usedB rf) k=0:=by omega
    by_cases e:i=k
    ·subst e
     cases hu:usedB rf i with
     |false=>rfl
     |true=>rw[hu]at h;simp at h
    ·exact ih.1 h1 i (by omega)
   ·intro h
    rw[ih.2 (fun i hi=>h i (by omega)),h k (by omega)]
    rfl
 rw[key]
 constructor
 ·intro h
  cases hr:rf with
  |nil=>rfl
  |cons n r=>
   have:=h n (h10 n (by rw[hr];simp))
   unfold usedB at this
   rw[hr]at this
   simp at this
 ·rintro rfl i _
  rfl
theorem drefs_any{w:World}{P:Nat}{rf:List Nat}(h:∀i,i<10->w.cell? ⟨P,2+i,none⟩=some (.bool (rf.contains i))):
  Calls Tryz.prog 20 #[.pointer (some ⟨P,0,none⟩)] w fun r w'=>r= .returned (.int .i64 (cnt (usedB rf) 10))/\w'=w:=by
 have hp:∀i,i<10->w.cell? ⟨P,2+i,none⟩=some (.bool (usedB rf i)):=h
 have q0:=hp 0 (by omega)
 have q1:=hp 1 (by omega)
 have q2:=hp 2 (by omega)
 have q3:=hp 3 (by omega)
 have q4:=hp 4 (by omega)
 have q5:=hp 5 (by omega)
 have q6:=hp 6 (by omega)
 have q7:=hp 7 (by omega)
 have q8:=hp 8 (by omega)
 have q9:=hp 9 (by omega)
 clear hp h
 simp only[Nat.reduceAdd]at q0 q1 q2 q3 q4 q5 q6 q7 q8 q9
 generalize usedB rf=f at*
 go_enter Tryz.func20,Tryz.ntmps20
 go_wp2
 go_loop [3,5,10] (fun n _ i=>∃k:Nat,k<=10/\i= .int .i64 k/\n= .int .i64 (cnt f k)) (fun _ _ i=>10-(intOf i).toNat)
 case atStart=>exact⟨0,by omega,rfl,rfl⟩
 case round=>
  obtain⟨k,hk,rfl,rfl⟩:=hrel
  clear q0 q1 q2 q3 q4 q5 q6 q7 q8 q9
  by_cases hlt:k<10
  ·have hix:=run_ixb f k hlt
   unfold tenB at hix
   have hc:=cnt_le f k
   cases hf:f k
   all_goals
    rw[hf]at hix
    have Hf:=hd hf
    clear hf
    go_wp2
    go_round
    case rel=>exact⟨k+1,by omega,by go_num,by simp[cnt,Hf.out]⟩
    case measure=>simp[intOf];omega
  ·obtain rfl:k=10:=by omega
   go_wp2
   go_ret
   exact⟨rfl,rfl⟩
theorem fm_md{p:List UInt8}(hok:(parseT p).1=0)(s:List UInt8)(hf:refT0 p= []\/s.length<=24)(i j:Nat):Fm p s i j↔∃g,MdRow s (refT0 p) ((itsT p).map (·.3)) (i,mk0) (j,g):=by
 rw[fm_mg hok,md_mg hok (refT_nine hok)]
 exact⟨fun h=>h.2,fun h=>⟨hf,h⟩⟩
theorem dfind_any(w:World)(g:Nat)(l:List UInt8)(s:ByteArray)(fr:Int)(hok:(parseT l).1=0)(hP:RPat w g l)(hs:s.size<=1000000000)(hf1:fr<=9223372036854775807):
  Calls Tryz.prog 11 #[.pointer (some ⟨g,0,none⟩),.string s,.int .i64 fr] w fun e w'=>e= .returned (resE (findI l s.data.toList fr))/\Below w.heap.size w w':=by
 obtain⟨H,d,ao,rn,rc,its,hF,hR,c0,hused,htr⟩:=hP
 have h10:=refT_nine hok
 have hE:Env w H g (refT0 l):=⟨hF,hused⟩
 have Hrefs:=hd (drefs_any hused)
 have hcu:=cnt_used h10
 have hcb:=cnt_le (usedB (refT0 l)) 10
 have hl:=len_data s
 have Hend:Hid (∀fd a b,FindRes s.data.toList.length (Fm l s.data.toList) fr fd a b->(.tuple #[.int .i64 a,.int .i64 b,.bool fd]:Value)=resE (findI l s.data.toList fr)):=hd (fun fd a b h=>find_res hok h)
 by_cases hneg:fr<0
 ·have HF:=hd (Hend.out false 0 0 ⟨fun h=>by omega,fun _=>⟨rfl,rfl,rfl⟩⟩)
  clear hE hused hF hR hcu htr hok h10
  go_enter Tryz.func11,Tryz.ntmps11
  go_wp2
  go_ret3
  exact⟨by rw[<-HF.out];rfl,Below.refl _ _⟩
 ·by_cases hbig:refT0 l≠ []/\24<s.size
  ·have hc0:(0:Int)<(cnt (usedB (refT0 l)) 10:Int):=by
    have:cnt (usedB (refT0 l)) 10≠0:=fun e=>hbig.1 (hcu.1 e)
    omega
   have hs24:(24:Int)<(s.size:Int):=by omega
   have HF:Hid ((.tuple #[.int .i64 0,.int .i64 0,.bool false]:Value)=resE (findI l s.data.toList fr)):=hd (by
    unfold findI
    split
    ·unfold findE
     rw[if_pos ⟨hbig.1,by rw[hl];exact hbig.2⟩]
     rfl
    ·rfl)
   clear hE hused hF hR hcu htr hok h10 hbig
   go_enter Tryz.func11,Tryz.ntmps11
   go_wp2_with (go_at_call 20;refine Hrefs.out.mono ?_;rintro e w' ⟨rfl,rfl⟩)
   go_ret3
   exact⟨by rw[<-HF.out];rfl,Below.refl _ _⟩
  ·have hfit0:refT0 l= []\/s.size<=24:=by
    by_cases e:refT0 l= []
    ·exact .inl e
    ·right
     rcases Nat.lt_or_ge 24 s.size with h|h
     ·exact absurd ⟨e,h⟩ hbig
     ·exact h
   have hfit:FitD s.size (refT0 l):=⟨h10,(refs_T hok).2.1,hs,hfit0⟩
   have hcase:¬(0:Int)<(cnt (usedB (refT0 l)) 10:Int)\/((0:Int)<(cnt (usedB (refT0 l)) 10:Int)/\¬(24:Int)<(s.size:Int)):=by
    rcases hfit0 with e|e
    ·left;have:=hcu.2 e;omega
    ·by_cases h0:cnt (usedB (refT0 l)) 10=0
     ·left;omega
     ·right;omega
   have Hfm:Hid (∀i j,Fm l s.data.toList i j↔∃g,MdRow s.data.toList (refT0 l) (its.map (·.3)) (i,mk0) (j,g)):=hd (fun i j=>by rw[htr];exact fm_md hok s.data.toList (by rw[hl];exact hfit0) i j)
   have Hrow:Hid (∀(w':World) (i:Nat),Env w' H g (refT0 l)->i<=s.size->Calls Tryz.prog 21 #[.pointer (some ⟨g,0,none⟩),.slice ao rn rc,.string s,.agg (stV (i,mk0))] w' fun e w''=>OutP w' w'' e (fun v=>MdRow s.data.toList (refT0 l) (its.map (·.3)) (i,mk0) v)):=
    hd (fun w' i hE' hi=>drow_any (ditem_any hfit d) hfit w' ao rn rc its (i,mk0) hE' hR (okD_0 _ hi))
   have Hfit:=hd hfit
   have HE:=hd hE
   have Hok:Hid (∀(i:Nat) (v:Ds),i<=s.size->MdRow s.data.toList (refT0 l) (its.map (·.3)) (i,mk0) v->OkD s.size (refT0 l) v):=hd (fun i v hi h=>by have:=mdRow_ok s.data.toList (refT0 l) h10 _ _ v (by rw[len_data];exact okD_0 _ hi) h;rw[len_data]at this;exact this.1)
   have Hu:=hd und_state.choose_spec
   have Hi21:Hid (∀e:Ds,(Tryz.prog.info? 77).map (·.size)=some (stL e).length):=hd (fun e=>info_state)
   obtain⟨fn,hfn⟩:∃fn:Nat,fr=fn:=⟨fr.toNat,by omega⟩
   subst hfn
   have lg:=World.block_lt_of_cell? w _ c0
   obtain⟨X,hX⟩:∃X,w.heap.size=X:=⟨_,rfl⟩
   have HX:=hd hX
   have HC0:Hid (∀w',Below X w w'->w'.cell? ⟨g,0,none⟩=some (.slice ao rn rc)):=hd (fun w' hb=>(hb.cell (by rw[<-hX];exact lg)).trans c0)
   have Hl:=hd hl
   clear hX lg hE hused hF hR hcu htr hok h10 hbig hfit hfit0 hl
   rcases hcase with hA|⟨hA,hB⟩
   all_goals
    go_enter Tryz.func11,Tryz.ntmps11
    go_wp2_with (go_at_call 20;refine Hrefs.out.mono ?_;rintro e wz ⟨rfl,hw⟩;have hw2:=hw.symm;clear hw;subst hw2)
    clear c0 Hrefs
    go_loopg [9] (s.size+2) (fun f iv wr=>∃i:Nat,iv= .int .i64 i/\fn<=i/\(i=fn\/i<=s.size+1)/\s.size+1<i+f/\Hid (Below X w wr)/\Hid (∀a b,fn<=a->a<i->¬Fm l s.data.toList a b))
    case atStart=>exact⟨fn,rfl,Nat.le_refl _,.inl rfl,by omega,hd (by rw[<-HX.out];exact Below.refl _ _),hd (fun a b h1 h2=>by omega)⟩
    case round=>
     obtain⟨i,rfl,hi,hi2,hif,HB,Hno⟩:=hrel
     by_cases hle:i<=s.size
     ·have hleI:(i:Int)<=(s.size:Int):=by omega
      have c0:=HC0.out _ HB.out
      have hXw:X<=wr.heap.size:=by have:=HB.out.size;have:=HX.out;omega
      have lgw:=World.block_lt_of_cell? wr _ c0
      have Hbg:=hd (fun w2=>begun_any i w2)
      have Hb0:Hid (∀w3,Below wr.drew.heap.size wr.drew w3->Below X w w3):=hd (fun w3 hb=>HB.out.trans ((show Below wr.heap.size wr w3 from⟨hb.os,hb.tape,hb.output,hb.size,hb.block⟩).mono hXw))
      obtain⟨gf,rfl⟩:∃gf,gk=gf+1:=⟨gk-1,by omega⟩
      go_wp2_with fail
      go_region_held3 (fun w'=>w'.cell? ⟨g,0,none⟩=some (.slice ao rn rc)) (go_keep)
       ((first
        |(go_at_call 22;refine(Hbg.out _).mono ?_;rintro e w3 ⟨rfl,hb3⟩;have hc3:=HC0.out _ (Hb0.out _ hb3);have hsz3:=hb3.size)
        |(go_at_call 21;refine(Hrow.out _ i (HE.out.below HX.out.symm (Hb0.out _ hb3)) hle).mono ?_;rintro e w4 ⟨C,cv,rfl,hb4,ho4,hn4,hm4⟩;obtain⟨ca,cc,rfl⟩:=owns_shape ho4;have hc4:=HC0.out _ ((Hb0.out _ hb3).trans (hb4.mono (by have:wr.heap.size<=w3.heap.size:=hsz3;omega))))))
      have HB4:Hid (Below X w w4):=hd ((Hb0.out _ hb3).trans (hb4.mono (by have:wr.heap.size<=w3.heap.size:=hsz3;omega)))
      have HO4:Hid (w4.ownsRow X 77 21 (.slice ca C.length cc) C.length (sts C)):=hd (owns_base ho4 (by have:wr.heap.size<=w3.heap.size:=hsz3;omega))
      have Hm4:=hd hm4
      have hCn:C.length<=2000000000:=(all_count Hfit.out hn4 (fun v hv=>Hok.out i v hle ((hm4 v).1 hv))).1
      have hCI:(C.length:Int)<=2000000000:=by omega
      have HCp:Hid (∀v∈C,v.1<=s.size):=hd (fun v hv=>(Hok.out i v hle ((hm4 v).1 hv)).pl)
      clear hb3 hb4 ho4 hn4 hm4 hc3 hc4 hsz3 Hbg Hb0 HB lgw c0 hXw
      go_wp2_with fail
      go_loopg [10,42] (C.length+1) (fun f bv jv w5=>∃(j:Nat) (bst:Int),jv= .int .i64 j/\bv= .int .i64 bst/\j<=C.length/\C.length<j+f/\ -1<=bst/\bst<=s.size/\Hid (Below X w w5)/\Hid (w5.ownsRow X 77 21 (.slice ca C.length cc) C.length (sts C))/\Hid ((bst= -1/\j=0)\/∃v∈C,bst=v.1/\∀u∈C.take j,u.1<=v.1))
      case atStart=>exact⟨0,-1,rfl,rfl,by omega,by omega,by omega,by omega,HB4,HO4,hd (.inl ⟨rfl,rfl⟩)⟩
      case round=>
       clear HB4 HO4
       obtain⟨j,bst,rfl,rfl,hj,hjf,hb0,hb1,HB5,HO5,HBs⟩:=hrel
       by_cases hjl:j<C.length
       ·obtain⟨gc,rfl⟩:=owns_some HO5.out (by omega)
        obtain⟨z,hz⟩:∃z,z=C[j]:=⟨_,rfl⟩
        have HR1:Hid (wr.rangeAt gc (j*21) (stL z)):=hd (by rw[hz];exact range_at HO5.out hjl)
        have hzC:z∈C:=by rw[hz];exact List.getElem_mem hjl
        have Htkj:Hid (∀v,v∈C.take (j+1)↔v∈C.take j\/v=z):=hd (fun v=>by rw[hz];exact mem_take_succ hjl v)
        have hzp:=HCp.out z hzC
        have cz0:(wr.alloc (.cells (stV z) 77)).cell? ⟨wr.heap.size,0,none⟩=some (.int .i64 z.1):=by
         rw[cell_of_row _ _ 0 (stV z) _ _ (heap_alloc_new wr _)];exact stV_0 z
        have hXw:X<=wr.heap.size:=by have:=HB5.out.size;have:=HX.out;omega
        have HB6:=hd (HB5.out.trans ((alloc_below wr (.cells (stV z) 77)).mono hXw))
        have HO6:=hd (HO5.out.alloc (.cells (stV z) 77))
        have HzC:=hd hzC
        have hjI:(j:Int)<(C.length:Int):=by omega
        have hj0:(0:Int)<=(j:Int):=by omega
        clear hz hzC
        obtain⟨gf2,rfl⟩:∃gf2,gk=gf2+1:=⟨gk-1,by omega⟩
        by_cases hgt:bst<(z.1:Int)
        ·go_wp2_with (first
          |refine wpList_load_mid rfl 77 (.tmp 44) rfl gc (j*21) (by rfl) (stL z) _ HR1.out Hu.out rfl (Hi21.out z) ?_
          |(refine wpList_store_row rfl 77 (.tmp 12) (.tmp 45) rfl wr.heap.size (stV z) (by rfl) (by rfl) 77 _ (heap_alloc_new _ _) info_state rfl (stV_one z) ?_;rw[World.setRow_alloc_new]))
         have HBs2:Hid (((z.1:Int)= -1/\j+1=0)\/∃v∈C,(z.1:Int)=v.1/\∀u∈C.take (j+1),u.1<=v.1):=hd (.inr ⟨z,HzC.out,rfl,fun u hu=>by
          rcases(Htkj.out u).1 hu with h|rfl
          ·rcases HBs.out with⟨_,h0⟩|⟨v,h1,h2,h3⟩
           ·rw[h0]at h;simp at h
           ·have:=h3 u h;omega
          ·exact Nat.le_refl _⟩)
         go_roundg gf2
         case measure=>omega
         case rel=>exact⟨j+1,_,by go_num,rfl,by omega,by omega,by omega,by omega,HB6,HO6,HBs2⟩
        ·go_wp2_with (first
          |refine wpList_load_mid rfl 77 (.tmp 44) rfl gc (j*21) (by rfl) (stL z) _ HR1.out Hu.out rfl (Hi21.out z) ?_
          |(refine wpList_store_row rfl 77 (.tmp 12) (.tmp 45) rfl wr.heap.size (stV z) (by rfl) (by rfl) 77 _ (heap_alloc_new _ _) info_state rfl (stV_one z) ?_;rw[World.setRow_alloc_new]))
         have HBs2:Hid ((bst= -1/\j+1=0)\/∃v∈C,bst=v.1/\∀u∈C.take (j+1),u.1<=v.1):=hd (by
          rcases HBs.out with⟨h0,_⟩|⟨v,h1,h2,h3⟩
          ·omega
          ·exact .inr ⟨v,h1,h2,fun u hu=>by
            rcases(Htkj.out u).1 hu with h|rfl
            ·exact h3 u h
            ·omega⟩)
         go_roundg gf2
         case measure=>omega
         case rel=>exact⟨j+1,bst,by go_num,rfl,by omega,by omega,by omega,by omega,HB6,HO6,HBs2⟩
       ·obtain rfl:j=C.length:=by omega
        by_cases hbs:bst= -1
        ·have hC0:C= []:=by
          rcases HBs.out with⟨_,h0⟩|⟨v,h1,h2,_⟩
          ·exact List.length_eq_zero_iff.1 h0
          ·omega
         have Hno2:Hid (∀a b,fn<=a->a<i+1->¬Fm l s.data.toList a b):=hd (fun a b h1 h2 h3=>by
          rcases Nat.lt_or_ge a i with h4|h4
          ·exact Hno.out a b h1 h4 h3
          ·obtain rfl:a=i:=by omega
           obtain⟨g',hg'⟩:=(Hfm.out a b).1 h3
           have:=(Hm4.out (b,g')).2 hg'
           rw[hC0]at this
           simp at this)
         have hbI:¬(0:Int)<=bst:=by omega
         clear hC0 hbs
         go_wp2
         go_roundg gf
         case measure=>omega
         case rel=>exact⟨i+1,by go_num,by omega,by omega,by omega,HB5,Hno2⟩
        ·obtain⟨bn,hbn⟩:∃bn:Nat,bst=bn:=⟨bst.toNat,by omega⟩
         subst hbn
         have HF:Hid ((.tuple #[.int .i64 i,.int .i64 bn,.bool true]:Value)=resE (findI l s.data.toList fn)):=hd (Hend.out true i bn ⟨fun _=>⟨fun _=>?_,(fun h=>by cases h)⟩,fun h=>absurd ⟨by omega,by rw[Hl.out];omega⟩ h⟩)
         ·have hbI:(0:Int)<=(bn:Int):=by omega
          clear hbs
          go_wp2
          go_ret3
          exact⟨by rw[<-HF.out];rfl,by rw[HX.out];exact HB5.out⟩
         ·rcases HBs.out with⟨h0,_⟩|⟨v,h1,h2,h3⟩
          ·omega
          ·have hv:v.1=bn:=by omega
           refine⟨by omega,by rw[Hl.out];exact hle,(Hfm.out i bn).2 ⟨v.2,?_⟩,fun a c k1 k2 k3=>⟨?_,?_⟩⟩
           ·rw[<-hv];exact(Hm4.out v).1 h1
           ·rcases Nat.lt_or_ge a i with h4|h4
            ·exact absurd k3 (Hno.out a c (by omega) h4)
            ·exact h4
           ·rintro rfl
            obtain⟨g',hg'⟩:=(Hfm.out a c).1 k3
            have:=h3 (c,g') (by rw[List.take_length];exact(Hm4.out (c,g')).2 hg')
            have h5:c<=v.1:=this
            omega
     ·have hleI:¬(i:Int)<=(s.size:Int):=by omega
      have HF:Hid ((.tuple #[.int .i64 (0:Nat),.int .i64 (0:Nat),.bool false]:Value)=resE (findI l s.data.toList fn)):=hd (Hend.out false 0 0 ⟨fun _=>⟨(fun h=>by cases h),fun _=>⟨rfl,rfl,fun a b h1 h2=>Hno.out a b (by omega) (by rw[Hl.out]at h2;omega)⟩⟩,fun _=>⟨rfl,rfl,rfl⟩⟩)
      go_wp2
      go_ret3
      exact⟨by rw[<-HF.out];rfl,by rw[HX.out];exact HB.out⟩
end Go.Proofs.YtldiemjlpnachaaGreatDoor
set_option maxHeartbeats 3200000
set_option maxRecDepth 100000
namespace Go.Proofs.YtldiemjlpnachaaGreatDoor
open Go.RowKit
theorem RPat.below{w w':World}{g:Nat}{l:List UInt8}(h:RPat w g l)(hb:Below w.heap.size w w'):RPat w' g l:=by
 obtain⟨H,d,ao,rn,rc,its,h1,h2,h3,h4,h5⟩:=h
 refine⟨H,d,ao,rn,rc,its,fun q arr hq=>?_,h2,(hb.cell (World.block_lt_of_cell? w _ h3)).trans h3,fun i hi=>(hb.cell (World.block_lt_of_cell? w _ (h4 i hi))).trans (h4 i hi),h5⟩
 obtain⟨t,fr,ht⟩:=h1 q arr hq
 exact⟨t,fr,(hb.block q (h1.lt hq)).trans ht⟩
theorem dall_any(w:World)(g:Nat)(l:List UInt8)(s:ByteArray)(hok:(parseT l).1=0)(hP:RPat w g l)(hs:s.size<=1000000000):
  Calls Tryz.prog 12 #[.pointer (some ⟨g,0,none⟩),.string s] w fun e w'=>allP l s w w' e:=by
 have hs1:(s.size:Int)<=1000000000:=by omega
 have HP:=hd hP
 have Hok:=hd hok
 have Hl:=hd (len_data s)
 clear hP hok
 go_enter Tryz.func12,Tryz.ntmps12
 go_wp2_with fail
 go_loopg [5,6] (s.size+2) (fun f sv fv wr=>∃(fr:Nat) (acc:List (Nat×Nat)) (ua:Option Addr) (uc:Nat),fv= .int .i64 fr/\sv= .slice ua acc.length uc/\fr<=s.size+1/\s.size+1<fr+f/\acc.length<=fr/\Hid (Below w.heap.size w wr)/\Hid (wr.ownsRow w.heap.size 46 2 (.slice ua acc.length uc) acc.length (spc acc))/\Hid (acc++allE l s.data.toList (s.size+1) fr=allE l s.data.toList (s.size+1) 0))
 case atStart=>exact⟨0,[],none,0,rfl,rfl,Nat.zero_le _,by omega,Nat.le_refl _,hd (Below.refl _ _),hd (World.ownsRow_nil _ _ _ _),hd rfl⟩
 case round=>
  obtain⟨fr,acc,ua,uc,rfl,rfl,hfr,hf,hacc,HB,HO,HE⟩:=hrel
  have hfr0:(0:Int)<=(fr:Int):=by omega
  by_cases hle:fr<=s.size
  ·have hle1:(fr:Int)<=(s.size:Int):=by omega
   have Hfd:Hid (Calls Tryz.prog 11 #[.pointer (some ⟨g,0,none⟩),.string s,.int .i64 fr] wr fun e w'=>e= .returned (resE (findE l s.data.toList fr))/\Below wr.heap.size wr w'):=hd (by
    have:=dfind_any wr g l s fr Hok.out (HP.out.below HB.out) hs (by omega)
    rw[findI_nat _ _ (by rw[Hl.out];exact hle)]at this
    exact this)
   have Hun:Hid (allE l s.data.toList (s.size+1) fr=(match findE l s.data.toList fr with|none=> []|some (i,j)=>if i<j then(i,j)::allE l s.data.toList (s.size+1) j else allE l s.data.toList (s.size+1) (i+1))):=hd (by
    rw[allE,if_pos (by rw[Hl.out];exact hle)]
    cases he:findE l s.data.toList fr with
    |none=>rfl
    |some x=>
     obtain⟨i,j⟩:=x
     obtain⟨h1,h2,h3⟩:=findE_in Hok.out (by rw[Hl.out];exact hle) he
     simp only
     split
     ·rw[allE_fuel Hok.out s.size (s.size+1) j (by rw[Hl.out];omega) (by rw[Hl.out];omega)]
     ·rw[allE_fuel Hok.out s.size (s.size+1) (i+1) (by rw[Hl.out];omega) (by rw[Hl.out];omega)])
   have Hin:=hd (fun i j=>findE_in (fr:=fr) (a:=i) (b:=j) Hok.out (s:=s.data.toList) (by rw[Hl.out];exact hle))
   go_wp2_with fail
   refine Hfd.out.mono ?_
   rintro e1 w1 ⟨rfl,hb1⟩
   have HB1:=hd (HB.out.trans (hb1.mono HB.out.size))
   have HO1:Hid (w1.ownsRow w.heap.size 46 2 (.slice ua acc.length uc) acc.length (spc acc)):=hd (owns_same HO.out (fun k hk=>hb1.block k (HO.out.lt k hk).2))
   clear hb1 Hfd
   cases he:findE l s.data.toList fr with
   |none=>
    have HF:Hid (allP l s w w1 (.returned (.slice ua acc.length uc))):=hd (by
     have h:=HE.out
     rw[Hun.out,he,List.append_nil]at h
     refine⟨_,rfl,HB1.out,?_⟩
     rw[<-h]
     exact HO1.out)
    clear he Hun Hin HE HO HB HO1 HB1
    unfold resE
    go_wp2
    go_ret
    exact HF.out
   |some x=>
    obtain⟨i,j⟩:=x
    obtain⟨h1,h2,h3⟩:=Hin.out i j he
    rw[Hl.out]at h3
    have hi0:(0:Int)<=(i:Int):=by omega
    have hi1:(i:Int)<=1000000000:=by omega
    have hj1:(j:Int)<=1000000000:=by omega
    by_cases hij:i<j
    ·have hijI:((i:Int)==(j:Int))=false:=beq_eq_false_iff_ne.2 (by omega)
     have HE1:Hid ((acc++ [(i,j)])++allE l s.data.toList (s.size+1) j=allE l s.data.toList (s.size+1) 0):=hd (by
      have h:=HE.out
      rw[Hun.out,he]at h
      simp only at h
      rw[if_pos hij]at h
      rw[List.append_assoc]
      exact h)
     have hsz1:=HB1.out.size
     obtain⟨i0,hi0',hz0,hz1,hz2⟩:=info_parts info_span
     clear he Hun Hin HE HO HB
     unfold resE
     go_wp2_with
      (refine wpList_append_lies _ (by rfl) _ _ _ (by rfl) w.heap.size 46 i0 _ 2 16 uSpan hi0' hz0 hz1 hz2 rfl (by omega) (.slice ua acc.length uc) acc.length (spc acc) (by rfl) (HO1.out.alloc _)
        ⟨w1.heap.size,0,none⟩ 1 1 [.int .i64 i,.int .i64 j] (by rfl) (by rfl) (World.news_of_block (cs:= #[.int .i64 i,.int .i64 j]) (t:=46) (fr:=(0,0)) (heap_alloc_new w1 _)) (by simp[Value.oneCell'])
        (by omega) (by unfold maxLen;omega) (by omega) (by simp;omega) (w1.heap.size+1) (by simp) ?_
       intro gg cap w2 hown2 hgrow hat hlt
       have HB2:Hid (Below w.heap.size w w2):=hd ⟨hgrow.os.trans HB1.out.os,hgrow.tape.trans HB1.out.tape,hgrow.output.trans HB1.out.output,(by have:=hgrow.size;simp at this;omega),fun k hk=>(hgrow.block k (by simp;omega) (fun e=>by have:=(HO1.out.lt k e.symm).1;omega)).trans ((Below.heap_alloc _ _ _ (by omega)).trans (HB1.out.block k hk))⟩
       have HO2:Hid (w2.ownsRow w.heap.size 46 2 (.slice (some ⟨gg,0,none⟩) (acc++ [(i,j)]).length cap) (acc++ [(i,j)]).length (spc (acc++ [(i,j)]))):=hd (by rw[spc_snoc,List.length_append,List.length_singleton];exact hown2)
       clear hown2 hgrow hat hlt)
     go_roundg (gk-1)
     case measure=>omega
     case rel=>exact⟨j,acc++ [(i,j)],some ⟨gg,0,none⟩,cap,rfl,by simp,by omega,by omega,by simp;omega,HB2,HO2,HE1⟩
    ·have hijI:((i:Int)==(j:Int))=true:=beq_iff_eq.2 (by omega)
     have HE1:Hid (acc++allE l s.data.toList (s.size+1) (i+1)=allE l s.data.toList (s.size+1) 0):=hd (by
      have h:=HE.out
      rw[Hun.out,he]at h
      simp only at h
      rw[if_neg hij]at h
      exact h)
     clear he Hun Hin HE HO HB
     unfold resE
     go_wp2
     go_roundg (gk-1)
     case measure=>omega
     case rel=>exact⟨i+1,acc,ua,uc,by go_num,rfl,by omega,by omega,by omega,HB1,HO1,HE1⟩
  ·have hle1:¬(fr:Int)<=(s.size:Int):=by omega
   have HF:Hid (allP l s w wr (.returned (.slice ua acc.length uc))):=hd (by
    have h:=HE.out
    rw[allE,if_neg (by rw[Hl.out];exact hle),List.append_nil]at h
    refine⟨_,rfl,HB.out,?_⟩
    rw[<-h]
    exact HO.out)
   clear HE HO HB
   go_wp2
   go_ret
   exact HF.out
end Go.Proofs.YtldiemjlpnachaaGreatDoor
