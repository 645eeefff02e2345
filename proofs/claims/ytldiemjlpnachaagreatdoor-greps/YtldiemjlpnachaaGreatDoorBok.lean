import Derived.Test.YtldiemjlpnachaaGreatDoorBks
import Derived.Test.YtldiemjlpnachaaGreatDoorMks
namespace Go.Proofs.YtldiemjlpnachaaGreatDoor
mutual
def nb (n:Nat):Tr->Prop
 | .one _=>True
 | .beg=>True
 | .fin=>True
 | .back k=>k≠n
 | .grp _ r=>nbs n r
 | .rep _ _ x=>nb n x
def nbs (n:Nat):List Tr->Prop
 | []=>True
 |x::r=>nb n x/\nbs n r
end
mutual
def gtN (N:Nat):Tr->Prop
 | .one _=>True
 | .beg=>True
 | .fin=>True
 | .back _=>True
 | .grp n r=>N<n/\nbs n r/\gtNs n r
 | .rep _ _ x=>gtN N x
def gtNs (N:Nat):List Tr->Prop
 | []=>True
 |x::r=>gtN N x/\gtNs N r
end
theorem nbs_iff(n:Nat):∀r:List Tr,nbs n r↔∀x∈r,nb n x
 | []=>by simp[nbs]
 |x::r=>by simp[nbs,nbs_iff n r]
theorem gtNs_iff(n:Nat):∀r:List Tr,gtNs n r↔∀x∈r,gtN n x
 | []=>by simp[gtNs]
 |x::r=>by simp[gtNs,gtNs_iff n r]
def rws(σ:St):List Rw:=σ.outer++ [σ.inner]
theorem mem_rws{σ:St}{r:Rw}:r∈rws σ↔r∈σ.outer\/r=σ.inner:=by simp[rws]
structure OInv(σ:St):Prop where
 num:∀r∈rws σ,r.number<=σ.groups
 pw:(rws σ).Pairwise (fun a b=>a.number<b.number)
 gt:∀r∈rws σ,∀it∈r.items,gtN r.number it.3
 nbp:(rws σ).Pairwise (fun a b=>∀it∈b.items,nb a.number it.3)
 nbo:∀r∈rws σ,∀it∈r.items,nb r.number it.3
 cl:∀r∈rws σ,σ.closed r.number=false
 cg:∀n,σ.closed n=true->n<=σ.groups
theorem OInv.nbi{σ:St}(h:OInv σ){it:It}(hi:it∈σ.inner.items){r:Rw}(hr:r∈rws σ):Go.Proofs.YtldiemjlpnachaaGreatDoor.nb r.number it.3:=by
 rcases mem_rws.1 hr with ho|rfl
 ·have:=h.nbp
  unfold rws at this
  rw[List.pairwise_append]at this
  exact this.2.2 r ho σ.inner (by simp) it hi
 ·exact h.nbo _ hr it hi
theorem OInv.items{σ σ':St}(h:OInv σ)(ho:σ'.outer=σ.outer)(hg:σ'.groups=σ.groups)(hc:σ'.closed=σ.closed)(hn:σ'.inner.number=σ.inner.number)(hi:∀it∈σ'.inner.items,gtN σ.inner.number it.3/\∀r∈rws σ,Go.Proofs.YtldiemjlpnachaaGreatDoor.nb r.number it.3):OInv σ':=by
 have hin:σ.inner∈rws σ:=mem_rws.2 (.inr rfl)
 have hou:∀r,r∈σ.outer->r∈rws σ:=fun r hr=>mem_rws.2 (.inl hr)
 have hp:=h.pw
 have hb:=h.nbp
 unfold rws at hp hb
 rw[List.pairwise_append]at hp hb
 refine⟨fun r hr=>?_,?_,fun r hr it hit=>?_,?_,fun r hr it hit=>?_,fun r hr=>?_,by rw[hc,hg];exact h.cg⟩
 ·rw[hg]
  rcases mem_rws.1 hr with hr|rfl
  ·rw[ho]at hr;exact h.num r (hou r hr)
  ·rw[hn];exact h.num _ hin
 ·unfold rws
  rw[ho,List.pairwise_append]
  refine⟨hp.1,by simp,fun a ha b hb'=>?_⟩
  simp at hb'
  subst hb'
  rw[hn]
  exact hp.2.2 a ha σ.inner (by simp)
 ·rcases mem_rws.1 hr with hr|rfl
  ·rw[ho]at hr;exact h.gt r (hou r hr) it hit
  ·rw[hn];exact(hi it hit).1
 ·unfold rws
  rw[ho,List.pairwise_append]
  refine⟨hb.1,by simp,fun a ha b hb' it hit=>?_⟩
  simp at hb'
  subst hb'
  exact(hi it hit).2 a (hou a ha)
 ·rcases mem_rws.1 hr with hr|rfl
  ·rw[ho]at hr;exact h.nbo r (hou r hr) it hit
  ·rw[hn];exact(hi it hit).2 _ hin
 ·rw[hc]
  rcases mem_rws.1 hr with hr|rfl
  ·rw[ho]at hr;exact h.cl r (hou r hr)
  ·rw[hn];exact h.cl _ hin
theorem OInv.old{σ:St}(h:OInv σ){it:It}(hi:it∈σ.inner.items):gtN σ.inner.number it.3/\∀r∈rws σ,Go.Proofs.YtldiemjlpnachaaGreatDoor.nb r.number it.3:=
 ⟨h.gt _ (mem_rws.2 (.inr rfl)) it hi,fun _ hr=>h.nbi hi hr⟩
theorem OInv.add{σ:St}(h:OInv σ)(it:It)(wd:Nat)(h1:gtN σ.inner.number it.3)(h2:∀r∈rws σ,Go.Proofs.YtldiemjlpnachaaGreatDoor.nb r.number it.3):OInv (addIt σ it wd):=by
 refine h.items rfl rfl rfl rfl (fun x hx=>?_)
 have hx':x∈σ.inner.items++ [it]:=hx
 rcases List.mem_append.1 hx' with hx|hx
 ·exact h.old hx
 ·simp at hx;subst hx;exact⟨h1,h2⟩
theorem OInv.rep{σ:St}(h:OInv σ)(q:Nat)(a b:Int)(hc:canB σ.inner.items=true):OInv {σ with pos:=q,inner:= {σ.inner with items:=repL σ.inner.items a b}}:=by
 refine h.items rfl rfl rfl rfl (fun x hx=>?_)
 have hx':x∈repL σ.inner.items a b:=hx
 rcases list_snoc σ.inner.items with e|⟨is,i,e⟩
 ·rw[e]at hc;cases hc
 ·rw[e,repL_snoc]at hx'
  rcases List.mem_append.1 hx' with hx|hx
  ·exact h.old (by rw[e];simp[hx])
  ·simp at hx
   subst hx
   have:=h.old (it:=i) (by rw[e];simp)
   refine⟨?_,fun r hr=>?_⟩
   ·show gtN _ (.rep a b i.3)
    simp only[gtN]
    exact this.1
   ·show Go.Proofs.YtldiemjlpnachaaGreatDoor.nb _ (.rep a b i.3)
    simp only[Go.Proofs.YtldiemjlpnachaaGreatDoor.nb]
    exact this.2 r hr
theorem OInv.open_{σ:St}(h:OInv σ)(p q:Nat):OInv {σ with pos:=p,inner:=⟨σ.groups+1,q,[]⟩,outer:=σ.outer++ [σ.inner],groups:=σ.groups+1}:=by
 have e:rws {σ with pos:=p,inner:=⟨σ.groups+1,q,[]⟩,outer:=σ.outer++ [σ.inner],groups:=σ.groups+1}=rws σ++ [⟨σ.groups+1,q,[]⟩]:=rfl
 refine⟨fun r hr=>?_,?_,fun r hr it hit=>?_,?_,fun r hr it hit=>?_,fun r hr=>?_,fun n hn=>Nat.le_succ_of_le (h.cg n hn)⟩
 ·rw[e]at hr
  rcases List.mem_append.1 hr with hr|hr
  ·exact Nat.le_succ_of_le (h.num r hr)
  ·simp at hr;subst hr;exact Nat.le_refl _
 ·rw[e,List.pairwise_append]
  refine⟨h.pw,by simp,fun a ha b hb=>?_⟩
  simp at hb
  subst hb
  exact Nat.lt_succ_of_le (h.num a ha)
 ·rw[e]at hr
  rcases List.mem_append.1 hr with hr|hr
  ·exact h.gt r hr it hit
  ·simp at hr;subst hr;simp at hit
 ·rw[e,List.pairwise_append]
  refine⟨h.nbp,by simp,fun a _ b hb it hit=>?_⟩
  simp at hb
  subst hb
  simp at hit
 ·rw[e]at hr
  rcases List.mem_append.1 hr with hr|hr
  ·exact h.nbo r hr it hit
  ·simp at hr;subst hr;simp at hit
 ·rw[e]at hr
  rcases List.mem_append.1 hr with hr|hr
  ·exact h.cl r hr
  ·simp at hr
   subst hr
   show σ.closed (σ.groups+1)=false
   cases hc:σ.closed (σ.groups+1)
   ·rfl
   ·have:=h.cg _ hc;omega
theorem OInv.shut{σ:St}(h:OInv σ){os:List Rw}{r:Rw}(ho:σ.outer=os++ [r])(p:Nat):OInv {σ with pos:=p,inner:= {r with items:=r.items++ [itGrp σ.inner.number σ.inner.items]},outer:=os,closed:=fun i=>if i=σ.inner.number then true else σ.closed i}:=by
 have e0:rws σ=os++ [r]++ [σ.inner]:=by unfold rws;rw[ho]
 have hin:σ.inner∈rws σ:=mem_rws.2 (.inr rfl)
 have hrm:r∈rws σ:=by rw[e0];simp
 have hom:∀a,a∈os->a∈rws σ:=fun a ha=>by rw[e0];simp[ha]
 have hp:=h.pw
 have hb:=h.nbp
 rw[e0,List.pairwise_append]at hp hb
 have hp1:=hp.1
 have hb1:=hb.1
 rw[List.pairwise_append]at hp1 hb1
 have lt:∀a,a∈os++ [r]->a.number<σ.inner.number:=fun a ha=>hp.2.2 a ha σ.inner (by simp)
 have gi:gtN r.number (itGrp σ.inner.number σ.inner.items).3:=by
  show gtN _ (.grp _ (σ.inner.items.map (·.3)))
  simp only[gtN]
  refine⟨lt r (by simp),?_,?_⟩
  ·rw[nbs_iff]
   intro x hx
   obtain⟨z,hz,rfl⟩:=List.mem_map.1 hx
   exact h.nbo _ hin z hz
  ·rw[gtNs_iff]
   intro x hx
   obtain⟨z,hz,rfl⟩:=List.mem_map.1 hx
   exact h.gt _ hin z hz
 have ni:∀a,a∈rws σ->Go.Proofs.YtldiemjlpnachaaGreatDoor.nb a.number (itGrp σ.inner.number σ.inner.items).3:=fun a ha=>by
  show Go.Proofs.YtldiemjlpnachaaGreatDoor.nb _ (.grp _ (σ.inner.items.map (·.3)))
  simp only[Go.Proofs.YtldiemjlpnachaaGreatDoor.nb]
  rw[nbs_iff]
  intro x hx
  obtain⟨z,hz,rfl⟩:=List.mem_map.1 hx
  exact h.nbi hz ha
 have e1:rws {σ with pos:=p,inner:= {r with items:=r.items++ [itGrp σ.inner.number σ.inner.items]},outer:=os,closed:=fun i=>if i=σ.inner.number then true else σ.closed i}=os++ [{r with items:=r.items++ [itGrp σ.inner.number σ.inner.items]}]:=rfl
 refine⟨fun a ha=>?_,?_,fun a ha it hit=>?_,?_,fun a ha it hit=>?_,fun a ha=>?_,fun n hn=>?_⟩
 ·rw[e1]at ha
  rcases List.mem_append.1 ha with ha|ha
  ·exact h.num a (hom a ha)
  ·simp at ha;subst ha;exact h.num r hrm
 ·rw[e1,List.pairwise_append]
  refine⟨hp1.1,by simp,fun a ha b hb'=>?_⟩
  simp at hb'
  subst hb'
  exact hp1.2.2 a ha r (by simp)
 ·rw[e1]at ha
  rcases List.mem_append.1 ha with ha|ha
  ·exact h.gt a (hom a ha) it hit
  ·simp at ha
   subst ha
   rcases List.mem_append.1 hit with hit|hit
   ·exact h.gt r hrm it hit
   ·simp at hit;subst hit;exact gi
 ·rw[e1,List.pairwise_append]
  refine⟨hb1.1,by simp,fun a ha b hb' it hit=>?_⟩
  simp at hb'
  subst hb'
  rcases List.mem_append.1 hit with hit|hit
  ·exact hb1.2.2 a ha r (by simp) it hit
  ·simp at hit;subst hit;exact ni a (hom a ha)
 ·rw[e1]at ha
  rcases List.mem_append.1 ha with ha|ha
  ·exact h.nbo a (hom a ha) it hit
  ·simp at ha
   subst ha
   rcases List.mem_append.1 hit with hit|hit
   ·exact h.nbo r hrm it hit
   ·simp at hit;subst hit;exact ni r hrm
 ·rw[e1]at ha
  have hne:a.number≠σ.inner.number/\σ.closed a.number=false:=by
   rcases List.mem_append.1 ha with ha|ha
   ·exact⟨Nat.ne_of_lt (lt a (by simp[ha])),h.cl a (hom a ha)⟩
   ·simp at ha;subst ha;exact⟨Nat.ne_of_lt (lt r (by simp)),h.cl r hrm⟩
  show(if a.number=σ.inner.number then true else σ.closed a.number)=false
  rw[if_neg hne.1]
  exact hne.2
 ·have hn':(if n=σ.inner.number then true else σ.closed n)=true:=hn
  show n<=σ.groups
  by_cases hx:n=σ.inner.number
  ·rw[hx];exact h.num _ hin
  ·rw[if_neg hx]at hn';exact h.cg n hn'
theorem OInv.ref{σ:St}(h:OInv σ){n:Nat}(hn:¬(σ.groups<n\/σ.closed n=false)):gtN σ.inner.number (itBack n).3/\∀r∈rws σ,Go.Proofs.YtldiemjlpnachaaGreatDoor.nb r.number (itBack n).3:=by
 refine⟨by show gtN _ (.back n);simp only[gtN],fun r hr=>?_⟩
 show Go.Proofs.YtldiemjlpnachaaGreatDoor.nb _ (.back n)
 simp only[Go.Proofs.YtldiemjlpnachaaGreatDoor.nb]
 rintro rfl
 exact hn (.inr (h.cl r hr))
theorem stepT_oinv{l:List UInt8}{σ σ':St}(h:OInv σ)(hs:stepT l σ=(0,σ')):OInv σ':=by
 have one:∀f,gtN σ.inner.number (itOne f).3/\∀r∈rws σ,nb r.number (itOne f).3:=fun f=>⟨by simp only[gtN],fun r _=>by simp only[nb]⟩
 unfold stepT at hs
 split at hs
 ·unfold escT at hs
  split at hs
  ·simp at hs
  ·split at hs
   ·unfold openT at hs
    split at hs
    ·simp at hs
    ·simp only[Prod.mk.injEq,true_and]at hs
     subst hs
     exact h.open_ _ _
   ·split at hs
    ·unfold closeT at hs
     rcases list_snoc σ.outer with ho|⟨os,r,ho⟩
     ·rw[ho]at hs;simp at hs
     ·rw[ho]at hs
      simp only[List.getLast?_append,List.getLast?_singleton,Option.some_or,List.dropLast_concat,Prod.mk.injEq,true_and]at hs
      subst hs
      exact h.shut ho _
    ·split at hs
     ·unfold ivT at hs
      split at hs
      ·simp at hs
      ·rename_i hc
       split at hs
       ·simp at hs
       ·simp only[Prod.mk.injEq,true_and]at hs
        subst hs
        exact h.rep _ _ _ (by simpa using hc)
     ·split at hs
      ·unfold refT at hs
       split at hs
       ·simp at hs
       ·rename_i hcl
        obtain⟨r1,r2⟩:=h.ref hcl
        split at hs
        ·simp only[Prod.mk.injEq,true_and]at hs
         subst hs
         exact h.add (itBack _) 2 r1 r2
        ·split at hs
         ·simp at hs
         ·simp only[Prod.mk.injEq,true_and]at hs
          subst hs
          refine h.items rfl rfl rfl rfl (fun x hx=>?_)
          rcases List.mem_append.1 hx with hx|hx
          ·exact h.old hx
          ·simp at hx;subst hx;exact⟨r1,r2⟩
      ·split at hs
       ·simp only[Prod.mk.injEq,true_and]at hs
        subst hs
        exact h.add (itOne _) 2 (one _).1 (one _).2
       ·simp at hs
 ·split at hs
  ·unfold brkT at hs
   split at hs
   ·simp only[Prod.mk.injEq,true_and]at hs
    subst hs
    refine h.items rfl rfl rfl rfl (fun x hx=>?_)
    rcases List.mem_append.1 hx with hx|hx
    ·exact h.old hx
    ·simp at hx;subst hx;exact one _
   ·rename_i he
    simp only[Prod.mk.injEq]at hs
    exact absurd hs.1 he
  ·split at hs
   ·simp only[Prod.mk.injEq,true_and]at hs
    subst hs
    exact h.add (itOne _) 1 (one _).1 (one _).2
   ·split at hs
    ·simp only[Prod.mk.injEq,true_and]at hs
     subst hs
     exact h.add itBeg 1 (by simp only[gtN]) (fun r _=>by simp only[nb])
    ·split at hs
     ·simp only[Prod.mk.injEq,true_and]at hs
      subst hs
      exact h.add itFin 1 (by simp only[gtN]) (fun r _=>by simp only[nb])
     ·split at hs
      ·rename_i hc
       simp only[Prod.mk.injEq,true_and]at hs
       subst hs
       exact h.rep _ _ _ hc.2
      ·simp only[Prod.mk.injEq,true_and]at hs
       subst hs
       exact h.add (itOne _) 1 (one _).1 (one _).2
theorem goT_oinv{l:List UInt8}:∀(f:Nat) {σ:St},OInv σ->(goT l f σ).1=0->OInv (goT l f σ).2
 |0,_,h,_=>h
 |f+1,σ,h,he=>by
  by_cases hp:σ.pos<l.length
  ·obtain⟨e,σ',hst⟩:∃e σ',stepT l σ=(e,σ'):=⟨_,_,rfl⟩
   by_cases h0:e=0
   ·subst h0
    rw[goT_more hp hst]at he ⊢
    exact goT_oinv f (stepT_oinv h hst) he
   ·rw[goT_err hp (by rw[hst];exact h0),hst]at he
    exact absurd he h0
  ·rw[goT_out hp]
   exact h
theorem oinv0:OInv st0:=by
 have e:rws st0= [⟨0,0,[]⟩]:=rfl
 refine⟨fun r hr=>?_,by rw[e];simp,fun r hr it hit=>?_,by rw[e];simp,fun r hr it hit=>?_,fun r hr=>rfl,fun n hn=>by cases hn⟩
 ·rw[e]at hr;simp at hr;subst hr;exact Nat.le_refl _
 ·rw[e]at hr;simp at hr;subst hr;simp at hit
 ·rw[e]at hr;simp at hr;subst hr;simp at hit
theorem gt_T{l:List UInt8}(h:(parseT l).1=0):gtNs (goT l 61 st0).2.inner.number ((itsT l).map (·.3)):=by
 have ho:=goT_oinv (l:=l) 61 oinv0 (parseR_go (r:=goT l 61 st0) h)
 rw[gtNs_iff]
 intro x hx
 obtain⟨z,hz,rfl⟩:=List.mem_map.1 hx
 exact ho.gt _ (mem_rws.2 (.inr rfl)) z hz
theorem idx_inj{rf:List Nat}{a b:Nat}(ha:a∈rf)(h:rf.idxOf a=rf.idxOf b):a=b:=by
 have h1:=List.idxOf_lt_length_of_mem ha
 have h2:rf[rf.idxOf a]'h1=a:=List.getElem_idxOf h1
 have h3:rf.idxOf b<rf.length:=by omega
 have h4:rf[rf.idxOf b]'h3=b:=List.getElem_idxOf h3
 rw[<-h2,<-h4]
 congr 1
mutual
theorem okT_gt (rf:List Nat):∀(x:Tr) (N:Nat) (o:Nat->Bool),gtN N x->bks rf x->(∀n∈rf,o (rf.idxOf n)=true->n<=N)->okT rf o x=true
 | .one _,_,_,_,_,_=>by simp only[okT]
 | .beg,_,_,_,_,_=>by simp only[okT]
 | .fin,_,_,_,_,_=>by simp only[okT]
 | .back n,_,_,_,hb,_=>by simp only[okT,bks]at*;simpa using hb
 | .grp n r,N,o,hg,hb,ho=>by
  simp only[okT,gtN,bks]at*
  obtain⟨h1,_,h3⟩:=hg
  by_cases hn:n∈rf
  ·rw[if_pos (by simpa using hn)]
   have hf:o (rf.idxOf n)=false:=by
    cases hc:o (rf.idxOf n)
    ·rfl
    ·have:=ho n hn hc;omega
   rw[hf,okTs_gt rf r n _ h3 hb (fun m hm hu=>?_)]
   ·rfl
   ·unfold updB at hu
    by_cases e:rf.idxOf m=rf.idxOf n
    ·rw[idx_inj hm e];exact Nat.le_refl _
    ·rw[if_neg e]at hu;have:=ho m hm hu;omega
  ·rw[if_neg (by simpa using hn)]
   exact okTs_gt rf r n o h3 hb (fun m hm hu=>by have:=ho m hm hu;omega)
 | .rep _ _ x,N,o,hg,hb,ho=>by
  simp only[okT,gtN,bks]at*
  exact okT_gt rf x N o hg hb ho
theorem okTs_gt (rf:List Nat):∀(r:List Tr) (N:Nat) (o:Nat->Bool),gtNs N r->bkss rf r->(∀n∈rf,o (rf.idxOf n)=true->n<=N)->okTs rf o r=true
 | [],_,_,_,_,_=>by simp only[okTs]
 |x::r,N,o,hg,hb,ho=>by
  simp only[okTs,gtNs,bkss,Bool.and_eq_true]at*
  exact⟨okT_gt rf x N o hg.1 hb.1 ho,okTs_gt rf r N o hg.2 hb.2 ho⟩
end
theorem ok_T{l:List UInt8}(h:(parseT l).1=0):okTs (refT0 l) (fun _=>false) ((itsT l).map (·.3))=true:=
 okTs_gt _ _ _ _ (gt_T h) (refs_T h).1 (fun _ _ h=>by cases h)
end Go.Proofs.YtldiemjlpnachaaGreatDoor
