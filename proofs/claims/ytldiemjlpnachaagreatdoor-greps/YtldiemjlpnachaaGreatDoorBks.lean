import Derived.Test.YtldiemjlpnachaaGreatDoorParse
import Derived.Test.YtldiemjlpnachaaGreatDoorNfa
import Derived.Test.YtldiemjlpnachaaGreatDoorCod
namespace Go.Proofs.YtldiemjlpnachaaGreatDoor
structure BInv(σ:St):Prop where
 inn:∀it∈σ.inner.items,bks σ.refl it.3
 out:∀r∈σ.outer,∀it∈r.items,bks σ.refl it.3
 nd:σ.refl.Nodup
theorem BInv.add{σ:St}(h:BInv σ)(it:It)(wd:Nat)(hit:bks σ.refl it.3):BInv (addIt σ it wd):=by
 refine⟨fun x hx=>?_,h.out,h.nd⟩
 have hx':x∈σ.inner.items++ [it]:=hx
 rcases List.mem_append.1 hx' with hx|hx
 ·exact h.inn x hx
 ·simp at hx;subst hx;exact hit
theorem BInv.rep{σ:St}(h:BInv σ)(q:Nat)(a b:Int)(hc:canB σ.inner.items=true):BInv {σ with pos:=q,inner:= {σ.inner with items:=repL σ.inner.items a b}}:=by
 refine⟨fun x hx=>?_,h.out,h.nd⟩
 have hx':x∈repL σ.inner.items a b:=hx
 rcases list_snoc σ.inner.items with e|⟨is,i,e⟩
 ·rw[e]at hc;cases hc
 ·rw[e,repL_snoc]at hx'
  rcases List.mem_append.1 hx' with hx|hx
  ·exact h.inn x (by rw[e];simp[hx])
  ·simp at hx
   subst hx
   show bks σ.refl (.rep a b i.3)
   simp only[bks]
   exact h.inn i (by rw[e];simp)
theorem stepT_binv{l:List UInt8}{σ σ':St}(h:BInv σ)(hs:stepT l σ=(0,σ')):BInv σ':=by
 unfold stepT at hs
 split at hs
 ·unfold escT at hs
  split at hs
  ·simp at hs
  ·split at hs
   ·unfold openT at hs
    split at hs
    ·simp at hs
    ·simp only[Prod.mk.injEq,true_and]at hs
     subst hs
     refine⟨fun x hx=>by simp at hx,fun r hr=>?_,h.nd⟩
     have hr':r∈σ.outer\/r=σ.inner:=by simpa using hr
     rcases hr' with hr|rfl
     ·exact h.out r hr
     ·exact h.inn
   ·split at hs
    ·unfold closeT at hs
     rcases list_snoc σ.outer with ho|⟨os,r,ho⟩
     ·rw[ho]at hs;simp at hs
     ·rw[ho]at hs
      simp only[List.getLast?_append,List.getLast?_singleton,Option.some_or,List.dropLast_concat,Prod.mk.injEq,true_and]at hs
      subst hs
      refine⟨fun x hx=>?_,fun r' hr'=>h.out r' (by rw[ho];simp;exact .inl hr'),h.nd⟩
      have hx':x∈r.items++ [itGrp σ.inner.number σ.inner.items]:=hx
      rcases List.mem_append.1 hx' with hx|hx
      ·exact h.out r (by rw[ho];simp) x hx
      ·simp at hx
       subst hx
       show bks σ.refl (.grp _ (σ.inner.items.map (·.3)))
       simp only[bks]
       rw[bkss_iff]
       intro t ht
       obtain⟨z,hz,rfl⟩:=List.mem_map.1 ht
       exact h.inn z hz
    ·split at hs
     ·unfold ivT at hs
      split at hs
      ·simp at hs
      ·rename_i hc
       split at hs
       ·simp at hs
       ·simp only[Prod.mk.injEq,true_and]at hs
        subst hs
        exact h.rep _ _ _ (by simpa using hc)
     ·split at hs
      ·unfold refT at hs
       split at hs
       ·simp at hs
       ·split at hs
        ·rename_i hr
         simp only[Prod.mk.injEq,true_and]at hs
         subst hs
         refine h.add (itBack _) 2 ?_
         show bks σ.refl (.back _)
         simp only[bks]
         simpa[St.referred]using hr
        ·rename_i hr
         split at hs
         ·simp at hs
         ·simp only[Prod.mk.injEq,true_and]at hs
          subst hs
          refine⟨fun x hx=>?_,fun r hr' x hx=>bks_mono (fun n hn=>List.mem_append.2 (.inl hn)) _ (h.out r hr' x hx),?_⟩
          ·rcases List.mem_append.1 hx with hx|hx
           ·exact bks_mono (fun n hn=>List.mem_append.2 (.inl hn)) _ (h.inn x hx)
           ·simp at hx
            subst hx
            show bks (σ.refl++ [_]) (.back _)
            simp only[bks]
            simp
          ·show(σ.refl++ [_]).Nodup
           rw[List.nodup_append]
           refine⟨h.nd,by simp,fun a ha b hb=>?_⟩
           simp at hb
           subst hb
           rintro rfl
           exact hr (by simpa[St.referred]using ha)
      ·split at hs
       ·simp only[Prod.mk.injEq,true_and]at hs
        subst hs
        exact h.add (itOne _) 2 (by simp only[bks])
       ·simp at hs
 ·split at hs
  ·unfold brkT at hs
   split at hs
   ·simp only[Prod.mk.injEq,true_and]at hs
    subst hs
    refine⟨fun x hx=>?_,h.out,h.nd⟩
    rcases List.mem_append.1 hx with hx|hx
    ·exact h.inn x hx
    ·simp at hx
     subst hx
     simp only[bks]
   ·rename_i he
    simp only[Prod.mk.injEq]at hs
    exact absurd hs.1 he
  ·split at hs
   ·simp only[Prod.mk.injEq,true_and]at hs
    subst hs
    exact h.add (itOne _) 1 (by simp only[bks])
   ·split at hs
    ·simp only[Prod.mk.injEq,true_and]at hs
     subst hs
     exact h.add itBeg 1 (by simp only[bks])
    ·split at hs
     ·simp only[Prod.mk.injEq,true_and]at hs
      subst hs
      exact h.add itFin 1 (by simp only[bks])
     ·split at hs
      ·rename_i hc
       simp only[Prod.mk.injEq,true_and]at hs
       subst hs
       exact h.rep _ _ _ hc.2
      ·simp only[Prod.mk.injEq,true_and]at hs
       subst hs
       exact h.add (itOne _) 1 (by simp only[bks])
theorem goT_binv{l:List UInt8}:∀(f:Nat) {σ:St},BInv σ->Inv l σ->(goT l f σ).1=0->BInv (goT l f σ).2/\Inv l (goT l f σ).2
 |0,_,h,hi,_=>⟨h,hi⟩
 |f+1,σ,h,hi,he=>by
  by_cases hp:σ.pos<l.length
  ·obtain⟨e,σ',hst⟩:∃e σ',stepT l σ=(e,σ'):=⟨_,_,rfl⟩
   by_cases h0:e=0
   ·subst h0
    rw[goT_more hp hst]at he ⊢
    exact goT_binv f (stepT_binv h hst) (stepT_inv hi hp hst).1 he
   ·rw[goT_err hp (by rw[hst];exact h0),hst]at he
    exact absurd he h0
  ·rw[goT_out hp]
   exact⟨h,hi⟩
theorem parseR_go{l:List UInt8}{r:Nat×St}(h:(parseR l r).1=0):r.1=0:=by
 unfold parseR at h
 split at h
 ·simp at h
 ·split at h
  ·simp at h
  ·split at h
   ·rename_i h1;exact absurd h h1
   ·rename_i h1;omega
theorem refs_T{l:List UInt8}(h:(parseT l).1=0):bkss (refT0 l) ((itsT l).map (·.3))/\(refT0 l).length<=2/\(refT0 l).Nodup:=by
 have hg:=parseR_go (r:=goT l 61 st0) h
 have hb:=goT_binv (l:=l) 61 (σ:=st0) ⟨fun x hx=>by simp[st0]at hx,fun r hr=>by simp[st0]at hr,by simp[st0]⟩ (inv0 l) hg
 have e:refT0 l=(goT l 61 st0).2.refl:=by
  unfold refT0 refR
  exact if_pos h
 rw[e]
 refine⟨?_,hb.2.refs,hb.1.nd⟩
 rw[bkss_iff]
 intro t ht
 obtain⟨z,hz,rfl⟩:=List.mem_map.1 ht
 exact hb.1.inn z hz
end Go.Proofs.YtldiemjlpnachaaGreatDoor
set_option maxHeartbeats 1600000
namespace Go.Proofs.YtldiemjlpnachaaGreatDoor
open Go.RowKit
theorem parseR_long{l:List UInt8}{r:Nat×St}(h:60<l.length):parseR l r=(1,0,0):=by unfold parseR;rw[if_pos h]
theorem parseT_long{l:List UInt8}(h:60<l.length):parseT l=(1,0,0):=parseR_long h
theorem parse_all(s:ByteArray)(w:World)(hn:NamesIn w)(hm:s.size<=maxLen):
  Calls Tryz.prog 13 #[.string s] w fun e w'=>ParseOut s.data.toList (goT s.data.toList 61 st0) w w' e:=by
 by_cases hs:s.size<=60
 ·exact parse_any s w hn hs
 ·refine(parse_long s w (by omega) hm).mono ?_
  rintro e w' ⟨rfl,hb⟩
  unfold ParseOut refR
  rw[parseR_long (by rw[len_data];omega)]
  exact⟨⟨none,0,0,none,0,rfl,fun h=>by simp at h⟩,hb⟩
theorem parseR_size{l:List UInt8}{r:Nat×St}(h:(parseR l r).1=0):rowSz (r.2.inner.items.map (·.2))<=200:=by
 unfold parseR at h
 split at h
 ·simp at h
 ·split at h
  ·simp at h
  ·split at h
   ·rename_i h1;exact absurd h h1
   ·split at h
    ·simp at h
    ·split at h
     ·simp at h
     ·omega
structure ProgIn(w0 w:World)(g:Nat)(l:List UInt8):Prop where
 c0:w.cell? ⟨g,0,none⟩=some (.int .i64 (parseT l).2.2)
 c3:w.cell? ⟨g,3,none⟩=some (.int .i64 (refT0 l).length)
 code:∃v,w.cell? ⟨g,1,none⟩=some v/\w.cell? ⟨g,2,none⟩=some (.int .i64 (buildD (refT0 l) ((itsT l).map (·.3))).2)/\w.cell? ⟨g,4,none⟩=some (.int .i64 (levs ((buildD (refT0 l) ((itsT l).map (·.3))).1.map Prod.snd)))/\CodeIn w0 w v (buildD (refT0 l) ((itsT l).map (·.3))).1
 le:(buildD (refT0 l) ((itsT l).map (·.3))).1.length<=601
def CompPost(w w':World)(l:List UInt8)(e:Ending):Prop:=
 Below w.heap.size w w'/\((parseT l).1=0/\(∃g,w.heap.size<=g/\e= .returned (.tuple #[.pointer (some ⟨g,0,none⟩),.int .i64 0,.int .i64 0])/\ProgIn w w' g l)\/
  (parseT l).1≠0/\e= .returned (.tuple #[.pointer none,.int .i64 (parseT l).1,.int .i64 (parseT l).2.1]))
theorem CodeIn.alloc{w0 w:World}{v:Value}{cs:List Sd}(h:CodeIn w0 w v cs)(o:Obj):CodeIn w0 (w.alloc o) v cs:=by
 obtain⟨⟨css,h1,h2⟩,h3⟩:=h
 exact⟨⟨css,h1.alloc _,h2⟩,h3⟩
theorem refsAt_of{w:World}{base fc:Nat}{fa:Option Addr}{rl:List Nat}(h:w.ownsRow base 3 1 (.slice fa rl.length fc) rl.length (ints rl)):RefsAt w w.heap.size (.slice fa rl.length fc) rl:=by
 refine⟨fa,fc,rfl,fun i hi=>?_⟩
 obtain⟨g,cap,he,_,hl⟩:=h.form (by omega)
 simp only[Value.slice.injEq]at he
 obtain⟨rfl,_,rfl⟩:=he
 exact⟨g,rfl,hl,owns_cell h i _ (by unfold ints;rw[List.getElem?_map,List.getElem?_eq_getElem hi];rfl)⟩
theorem compile_any(s:ByteArray)(w:World)(hn:NamesIn w)(hm:s.size<=maxLen):
  Calls Tryz.prog 7 #[.string s] w fun e w'=>CompPost w w' s.data.toList e:=by
 have Hp:=hd (parse_all s w hn hm)
 clear hn
 by_cases he:(parseT s.data.toList).1=0
 ·have He:=hd he
  go_enter Tryz.func7,Tryz.ntmps7
  go_wp2_with fail
  refine Hp.out.mono ?_
  rintro e w2 ⟨⟨ra,rn,rc,fa,fc,rfl,hT⟩,hb⟩
  obtain⟨⟨H,D,hF,hHb,hR⟩,hrf⟩:=hT he
  obtain⟨hbk,hrl,_⟩:=refs_T he
  have hF':Fin (w2.alloc (.cells #[.slice ra rn rc,.int .i64 (parseR s.data.toList (goT s.data.toList 61 st0)).2.2,.slice fa (refR s.data.toList (goT s.data.toList 61 st0)).length fc] 50)) H:=fun g arr hg=>by rw[Below.heap_alloc _ _ _ (hF.lt hg)];exact hF g arr hg
  have hT':(w2.alloc (.cells #[.slice ra rn rc,.int .i64 (parseR s.data.toList (goT s.data.toList 61 st0)).2.2,.slice fa (refR s.data.toList (goT s.data.toList 61 st0)).length fc] 50)).cell? ⟨w2.heap.size,0,none⟩=some (.slice ra rn rc)/\(w2.alloc (.cells #[.slice ra rn rc,.int .i64 (parseR s.data.toList (goT s.data.toList 61 st0)).2.2,.slice fa (refR s.data.toList (goT s.data.toList 61 st0)).length fc] 50)).cell? ⟨w2.heap.size,1,none⟩=some (.int .i64 (parseR s.data.toList (goT s.data.toList 61 st0)).2.2)/\(w2.alloc (.cells #[.slice ra rn rc,.int .i64 (parseR s.data.toList (goT s.data.toList 61 st0)).2.2,.slice fa (refR s.data.toList (goT s.data.toList 61 st0)).length fc] 50)).cell? ⟨w2.heap.size,2,none⟩=some (.slice fa (refR s.data.toList (goT s.data.toList 61 st0)).length fc):=⟨by simp,by simp,by simp⟩
  have hb':=hb.alloc hb.size (.cells #[.slice ra rn rc,.int .i64 (parseR s.data.toList (goT s.data.toList 61 st0)).2.2,.slice fa (refR s.data.toList (goT s.data.toList 61 st0)).length fc] 50)
  have hrf':=refsAt_of (hrf.alloc (.cells #[.slice ra rn rc,.int .i64 (parseR s.data.toList (goT s.data.toList 61 st0)).2.2,.slice fa (refR s.data.toList (goT s.data.toList 61 st0)).length fc] 50))
  have hTl:w2.heap.size<(w2.alloc (.cells #[.slice ra rn rc,.int .i64 (parseR s.data.toList (goT s.data.toList 61 st0)).2.2,.slice fa (refR s.data.toList (goT s.data.toList 61 st0)).length fc] 50)).heap.size:=by simp
  rw[show(parseR s.data.toList (goT s.data.toList 61 st0)).1=0 from he]
  have Hs:=hd (parseR_size he)
  have Hsz:=hd hb.size
  clear hb hF hHb hT hrf
  go_wp2
  generalize w2.alloc (.cells #[.slice ra rn rc,.int .i64 (parseR s.data.toList (goT s.data.toList 61 st0)).2.2,.slice fa (refR s.data.toList (goT s.data.toList 61 st0)).length fc] 50)=W at hF' hT' hb' hTl hrf' ⊢
  generalize w2.heap.size=T at hT' hTl ⊢
  obtain⟨t0,t1,t2⟩:=hT'
  have HF:=hd hF'
  have HR:=hd hR
  have HbW:=hd hb'
  have Hbk:=hd (show bkss (refR s.data.toList (goT s.data.toList 61 st0)) ((goT s.data.toList 61 st0).2.inner.items.map (·.3))from hbk)
  have Hrl:=hd (show(refR s.data.toList (goT s.data.toList 61 st0)).length<=2 from hrl)
  have Hrf:=hd hrf'
  clear hF' hR hb' hbk hrl hrf'
  generalize hx2:(parseR s.data.toList (goT s.data.toList 61 st0)).2.2=x2 at*
  generalize hx3:refR s.data.toList (goT s.data.toList 61 st0)=x3 at*
  have Hx2:=hd hx2
  have Hx3:=hd hx3
  clear hx2 hx3
  go_region_held3 (fun w'=>w'.cell? ⟨T,0,none⟩=some (.slice ra rn rc)/\w'.cell? ⟨T,1,none⟩=some (.int .i64 x2)/\w'.cell? ⟨T,2,none⟩=some (.slice fa x3.length fc)) (go_keep)
   ((go_at_call 14;refine(build_any H D _ ra rn rc x2 fa fc x3 _ (by exact HF.out) HR.out Hs.out Hbk.out Hrl.out (by exact Hrf.out)).mono ?_;rintro e w3 ⟨hb3,v,rfl,hc3⟩;obtain⟨⟨css,hown,hcs⟩,hdl⟩:=hc3;obtain⟨ao,cp,rfl⟩:=owns_shape hown;have r0:w3.cell? ⟨T,0,none⟩=some (.slice ra rn rc):=(hb3.cell (by first|exact hTl|(simp;omega))).trans (by go_keep);have r1:w3.cell? ⟨T,1,none⟩=some (.int .i64 x2):=(hb3.cell (by first|exact hTl|(simp;omega))).trans (by go_keep);have r2:w3.cell? ⟨T,2,none⟩=some (.slice fa x3.length fc):=(hb3.cell (by first|exact hTl|(simp;omega))).trans (by go_keep)))
  have hb4:=HbW.out.drew.trans (hb3.mono HbW.out.size)
  have HFin:Hid (CompPost w (w3.alloc (.cells #[.int .i64 x2,.slice ao (buildD x3 ((goT s.data.toList 61 st0).2.inner.items.map (·.3))).1.length cp,.int .i64 (buildD x3 ((goT s.data.toList 61 st0).2.inner.items.map (·.3))).2,.int .i64 x3.length,.int .i64 (levs ((buildD x3 ((goT s.data.toList 61 st0).2.inner.items.map (·.3))).1.map Prod.snd))] 58)) s.data.toList (.returned (.tuple #[.pointer (some ⟨w3.heap.size,0,none⟩),.int .i64 0,.int .i64 0]))):=by
   have ex3:refT0 s.data.toList=x3:=Hx3.out
   refine⟨hb4.alloc hb4.size _,.inl ⟨He.out,w3.heap.size,hb4.size,rfl,⟨?_,?_,⟨.slice ao (buildD x3 ((goT s.data.toList 61 st0).2.inner.items.map (·.3))).1.length cp,?_,?_,?_,?_⟩,?_⟩⟩⟩
   ·rw[show(parseT s.data.toList).2.2=x2 from Hx2.out];simp
   ·rw[ex3];simp
   ·simp
   ·rw[ex3];simp[itsT]
   ·rw[ex3];simp[itsT]
   ·rw[ex3];exact CodeIn.alloc ⟨⟨css,owns_lower hown HbW.out.size,hcs⟩,hdl⟩ _
   ·rw[ex3]
    have:=row_steps x3 H D ra rn _ HR.out Hs.out 0 0 [(.done,0)]
    simp only[List.length_singleton]at this
    show(rowD _ _ 0 0 [(.done,0)]).1.length<=601
    have e:itsT s.data.toList=(goT s.data.toList 61 st0).2.inner.items:=rfl
    rw[e]
    omega
  clear hb3 hb4 hcs hown r0 r1 r2 t0 t1 t2 hdl
  go_wp2
  go_ret3
  exact HFin.out
 ·have He:=hd he
  go_enter Tryz.func7,Tryz.ntmps7
  go_wp2_with fail
  refine Hp.out.mono ?_
  rintro e w2 ⟨⟨ra,rn,rc,fa,fc,rfl,hT⟩,hb⟩
  have Hb:=hd hb
  have hsz:=hb.size
  have hen:(((parseR s.data.toList (goT s.data.toList 61 st0)).1:Int) !=0)=true:=by
   have:(parseR s.data.toList (goT s.data.toList 61 st0)).1≠0:=he
   simp;omega
  clear hb hT
  go_wp2
  go_ret3
  exact⟨Hb.out.alloc hsz _,.inr ⟨He.out,rfl⟩⟩
end Go.Proofs.YtldiemjlpnachaaGreatDoor
