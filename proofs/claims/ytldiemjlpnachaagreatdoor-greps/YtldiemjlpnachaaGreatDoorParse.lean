import Derived.Test.YtldiemjlpnachaaGreatDoorStep
import Derived.Deep.Cut
import Derived.Deep.WholeRow
set_option maxHeartbeats 3200000
set_option maxRecDepth 100000
namespace Go.Proofs.YtldiemjlpnachaaGreatDoor
open Go.RowKit
def goT(l:List UInt8):Nat->St->Nat×St
 |0,σ=>(0,σ)
 |f+1,σ=>if σ.pos<l.length then(if(stepT l σ).1=0 then goT l f (stepT l σ).2 else stepT l σ)else(0,σ)
def st0:St:=⟨0,⟨0,0,[]⟩,[],0,fun _=>false,[]⟩
def lfT(l:List UInt8):Option Nat:=l.findIdx? (· ==10)
def parseR(l:List UInt8)(r:Nat×St):Nat×Nat×Nat:=
 if 60<l.length then(1,0,0)
 else match lfT l with
  |some i=>(2,i,0)
  |none=>
   if r.1≠0 then(r.1,r.2.pos,0)
   else if r.2.outer≠ []then(11,r.2.inner.start,0)
   else if 200<rowSz (r.2.inner.items.map (·.2))then(12,0,0)
   else(0,0,r.2.groups)
def parseT(l:List UInt8):Nat×Nat×Nat:=parseR l (goT l 61 st0)
theorem parseR_lf{l:List UInt8}{r:Nat×St}{k:Nat}(h:¬60<l.length)(hk:lfT l=some k):parseR l r=(2,k,0):=by
 unfold parseR;rw[if_neg h,hk]
theorem parseR_err{l:List UInt8}{r:Nat×St}(h:¬60<l.length)(hk:lfT l=none)(he:r.1≠0):parseR l r=(r.1,r.2.pos,0):=by
 unfold parseR;rw[if_neg h,hk];simp only;rw[if_pos he]
theorem parseR_open{l:List UInt8}{σ:St}(h:¬60<l.length)(hk:lfT l=none)(ho:σ.outer≠ []):parseR l (0,σ)=(11,σ.inner.start,0):=by
 unfold parseR;rw[if_neg h,hk];simp only;rw[if_neg (by simp),if_pos ho]
theorem parseR_big{l:List UInt8}{σ:St}(h:¬60<l.length)(hk:lfT l=none)(ho:σ.outer= [])(hb:200<rowSz (σ.inner.items.map (·.2))):parseR l (0,σ)=(12,0,0):=by
 unfold parseR;rw[if_neg h,hk];simp only;rw[if_neg (by simp),if_neg (by simp[ho]),if_pos hb]
theorem parseR_ok{l:List UInt8}{σ:St}(h:¬60<l.length)(hk:lfT l=none)(ho:σ.outer= [])(hb:¬200<rowSz (σ.inner.items.map (·.2))):parseR l (0,σ)=(0,0,σ.groups):=by
 unfold parseR;rw[if_neg h,hk];simp only;rw[if_neg (by simp),if_neg (by simp[ho]),if_neg hb]
theorem goT_out{l:List UInt8}{f:Nat}{σ:St}(h:¬σ.pos<l.length):goT l f σ=(0,σ):=by
 cases f with
 |zero=>rfl
 |succ f=>rw[goT,if_neg h]
theorem goT_err{l:List UInt8}{f:Nat}{σ:St}(h:σ.pos<l.length)(he:(stepT l σ).1≠0):goT l (f+1) σ=stepT l σ:=by
 rw[goT,if_pos h,if_neg he]
theorem goT_more{l:List UInt8}{f:Nat}{σ σ':St}(h:σ.pos<l.length)(he:stepT l σ=(0,σ')):goT l (f+1) σ=goT l f σ':=by
 rw[goT,if_pos h,he,if_pos rfl]
theorem inv0(l:List UInt8):Inv l st0:=⟨Nat.zero_le _,Nat.zero_le _,Nat.zero_le _,Nat.zero_le _,Nat.zero_le _,Nat.zero_le _,fun r hr=>by simp[st0]at hr⟩
theorem lf_none{l:List UInt8}(h:∀i,i<l.length->ch l i≠10):lfT l=none:=by
 unfold lfT
 rw[List.findIdx?_eq_none_iff]
 intro x hx
 obtain⟨i,hi,rfl⟩:=List.getElem_of_mem hx
 have:=h i hi
 unfold ch at this
 rw[List.getElem?_eq_getElem hi]at this
 simp only[Option.getD_some]at this
 apply beq_eq_false_iff_ne.2
 intro e
 rw[e]at this
 exact this rfl
theorem lf_some{l:List UInt8}{k:Nat}(hk:k<l.length)(h:∀i,i<k->ch l i≠10)(h10:ch l k=10):lfT l=some k:=by
 unfold lfT
 rw[List.findIdx?_eq_some_iff_getElem]
 have hv:∀i (hi:i<l.length),ch l i=l[i].toNat:=fun i hi=>by unfold ch;rw[List.getElem?_eq_getElem hi];rfl
 refine⟨hk,?_,fun j hj=>?_⟩
 ·rw[hv k hk]at h10
  rw[beq_iff_eq]
  exact UInt8.toNat_inj.1 h10
 ·have:=h j hj
  rw[hv j (by omega)]at this
  simp
  intro e
  rw[e]at this
  exact this rfl
theorem rd0(w:World)(s:ByteArray):Rd (w.alloc (.cells #[.string s,.int .i64 0,.int .i64 0,.int .i64 0,.slice none 0 0,.slice none 0 0,.int .i64 0,.bool false,.bool false,.bool false,.bool false,.bool false,.bool false,.bool false,.bool false,.bool false,.bool false,.slice none 0 0] 83)) (w.heap.size+1) w.heap.size s (fun _=>none) st0:=by
 refine⟨by omega,by simp,by simp,by simp[st0],by simp[st0],by simp[st0],by simp[st0],?_,⟨.slice none 0 0,by simp,World.ownsRow_nil _ _ _ _⟩,(fun i _=>by simp),(fun g arr h=>by cases h),(fun g arr h=>by cases h),.slice none 0 0,.slice none 0 0,[],by simp,by simp,⟨[],trivial,World.ownsRow_nil _ _ _ _⟩,World.ownsRow_nil _ _ _ _,trivial,List.Pairwise.nil,(fun b hb=>by simp[Value.ownBlock]at hb)⟩
 ·intro i hi
  rcases(show i=0\/i=1\/i=2\/i=3\/i=4\/i=5\/i=6\/i=7\/i=8\/i=9 by omega)with rfl|rfl|rfl|rfl|rfl|rfl|rfl|rfl|rfl|rfl<;>simp[st0]
theorem owns_low{w:World}{base b e size:Nat}{v:Value}{n:Nat}{xs:List Value}(h:w.ownsRow base e size v n xs)(hb:b<=base):w.ownsRow b e size v n xs:=by
 refine⟨h.1,?_⟩
 rcases h.2 with h2|⟨g,cap,cur,h1,h2,h3⟩
 ·exact .inl h2
 ·exact .inr ⟨g,cap,cur,h1,Nat.le_trans hb h2,h3⟩
def TreeAt(w:World)(T:Nat):Prop:=(∃u,w.cell? ⟨T,0,none⟩=some u)/\(∃u,w.cell? ⟨T,1,none⟩=some u)/\(∃u,w.cell? ⟨T,2,none⟩=some u)/\w.frozen? ⟨T,0,none⟩=false/\w.frozen? ⟨T,1,none⟩=false/\w.frozen? ⟨T,2,none⟩=false
theorem TreeAt.below{w w':World}{T B:Nat}(h:TreeAt w T)(hb:Below B w w')(hT:T<B):TreeAt w' T:=by
 obtain⟨⟨u0,h0⟩,⟨u1,h1⟩,⟨u2,h2⟩,f0,f1,f2⟩:=h
 exact⟨⟨u0,(hb.cell (by exact hT)).trans h0⟩,⟨u1,(hb.cell (by exact hT)).trans h1⟩,⟨u2,(hb.cell (by exact hT)).trans h2⟩,(hb.frozen (by exact hT)).trans f0,(hb.frozen (by exact hT)).trans f1,(hb.frozen (by exact hT)).trans f2⟩
theorem below2{w wr:World}{T:Nat}(h:Below T w wr)(u0 u1 u2:Value):Below T w (((wr.setCell ⟨T,0,none⟩ u0).setCell ⟨T,1,none⟩ u1).setCell ⟨T,2,none⟩ u2):=((h.setCell (Nat.le_refl T) _).setCell (Nat.le_refl T) _).setCell (Nat.le_refl T) _
def TreeIn(w0 w:World)(ra:Option Addr)(rn:Nat)(its:List It):Prop:=∃H D,Fin w H/\(∀g arr,H g=some arr->w0.heap.size<=g)/\RowFin (ItemOk H D) H ra rn its
theorem TreeIn.tree{w0 wr:World}{T:Nat}{ra:Option Addr}{rn:Nat}{its:List It}{H:Fins}{D:Nat}(hT:w0.heap.size=T)(hF:Fin wr H)(hb:∀g arr,H g=some arr->T+2<=g)(hR:RowFin (ItemOk H D) H ra rn its)(u0 u1 u2:Value):TreeIn w0 (((wr.setCell ⟨T,0,none⟩ u0).setCell ⟨T,1,none⟩ u1).setCell ⟨T,2,none⟩ u2) ra rn its:=by
 refine⟨H,D,fun g arr hg=>?_,fun g arr hg=>by have:=hb g arr hg;omega,hR⟩
 have hg2:=hb g arr hg
 rw[Below.heap_setCell _ _ _ _ (by show g≠T;omega),Below.heap_setCell _ _ _ _ (by show g≠T;omega),Below.heap_setCell _ _ _ _ (by show g≠T;omega)]
 exact hF g arr hg
theorem TreeIn.drew{w0 w:World}{ra:Option Addr}{rn:Nat}{its:List It}(h:TreeIn w0 w ra rn its):TreeIn w0 w.drew ra rn its:=h
def refR(l:List UInt8)(r:Nat×St):List Nat:=if(parseR l r).1=0 then r.2.refl else []
def RefsIn(w0 w:World)(v:Value)(rl:List Nat):Prop:=w.ownsRow w0.heap.size 3 1 v rl.length (ints rl)
def ParseOut(l:List UInt8)(r:Nat×St)(w w':World)(e:Ending):Prop:=
 (∃ra rn rc fa fc,e= .returned (.tuple #[.agg #[.slice ra rn rc,.int .i64 (parseR l r).2.2,.slice fa (refR l r).length fc],.int .i64 (parseR l r).1,.int .i64 (parseR l r).2.1])/\((parseR l r).1=0->TreeIn w w' ra rn r.2.inner.items/\RefsIn w w' (.slice fa (refR l r).length fc) (refR l r)))/\Below w.heap.size w w'
theorem parse_long(s:ByteArray)(w:World)(hs:60<s.size)(hm:s.size<=maxLen):
  Calls Tryz.prog 13 #[.string s] w fun e w'=>e= .returned (.tuple #[.agg #[.slice none 0 0,.int .i64 0,.slice none 0 0],.int .i64 1,.int .i64 0])/\Below w.heap.size w w':=by
 unfold maxLen at hm
 go_enter Tryz.func13,Tryz.ntmps13
 go_wp2
 refine bodyPost_ret (v:= .tuple #[.agg #[.slice none 0 0,.int .i64 0,.slice none 0 0],.int .i64 1,.int .i64 0]) (by simp[results,Tryz.results13,go_sem]) rfl ⟨rfl,?_⟩
 exact(Below.refl _ _).alloc (Nat.le_refl _) _
theorem info_reader:(Tryz.prog.info? 83).map (·.size)=some 18:=by kernel_rfl
theorem parse_r(s:ByteArray)(w:World)(r:Nat×St)(hr:goT s.data.toList 61 st0=r)(hn:NamesIn w)(hs:s.size<=60):
  Calls Tryz.prog 13 #[.string s] w fun e w'=>ParseOut s.data.toList r w w' e:=by
 have Hr:=hd hr
 clear hr
 have Hl:=hd (len_data s)
 have Hsh:Hid (¬60<s.data.toList.length):=hd (by rw[len_data];omega)
 go_enter Tryz.func13,Tryz.ntmps13
 go_wp2
 have hT0:TreeAt (w.alloc (.cells #[.slice none 0 0,.int .i64 0,.slice none 0 0] 50)) w.heap.size:=⟨⟨.slice none 0 0,by simp⟩,⟨.int .i64 0,by simp⟩,⟨.slice none 0 0,by simp⟩,by simp,by simp,by simp⟩
 have Hb0:=hd ((Below.refl w.heap.size w).alloc (Nat.le_refl _) (.cells #[.slice none 0 0,.int .i64 0,.slice none 0 0] 50))
 have hz0:(w.alloc (.cells #[.slice none 0 0,.int .i64 0,.slice none 0 0] 50)).heap.size=w.heap.size+1:=by simp
 have hn0:=hn.alloc (.cells #[.slice none 0 0,.int .i64 0,.slice none 0 0] 50)
 have hGT:=hn.lt
 generalize w.alloc (.cells #[.slice none 0 0,.int .i64 0,.slice none 0 0] 50)=W0 at hT0 Hb0 hz0 hn0 ⊢
 generalize hTe:w.heap.size=T at hT0 Hb0 hz0 hGT ⊢
 have HTe:=hd hTe
 clear hTe
 obtain⟨⟨t0,ht0⟩,⟨t1,ht1⟩,⟨t2,ht2⟩,tf0,tf1,tf2⟩:=hT0
 go_loop [5] (fun i=>∃k:Nat,i= .int .i64 k/\k<=s.size/\Hid (∀j,j<k->ch s.data.toList j≠10)) (fun i=>60-(intOf i).toNat)
 case atStart=>exact⟨0,rfl,Nat.zero_le _,hd (fun j hj=>by omega)⟩
 case round=>
  obtain⟨k,rfl,hk,Hno⟩:=hrel
  by_cases hlt:k<s.size
  ·have hcg:=hd (ch_get s k hlt)
   cases h10:((s[k].toNat:Int)==10)
   ·go_wp2
    go_round
    case rel=>exact⟨k+1,by go_num,by omega,hd (fun j hj=>by
     rcases Nat.lt_or_ge j k with h|h
     ·exact Hno.out j h
     ·have e:j=k:=by omega
      subst e
      rw[<-hcg.out]
      simp at h10
      omega)⟩
    case measure=>simp[intOf];omega
   ·have Hz:Hid (parseR s.data.toList r=(2,k,0)):=hd (parseR_lf Hsh.out (lf_some (l:=s.data.toList) (k:=k) (by rw[Hl.out];exact hlt) Hno.out (by rw[<-hcg.out];simp at h10;omega)))
    go_wp2
    refine bodyPost_ret (v:= .tuple #[.agg #[.slice none 0 0,.int .i64 0,.slice none 0 0],.int .i64 2,.int .i64 k]) (by simp[results,Tryz.results13,go_sem,ht0,ht1,ht2]) rfl ⟨⟨none,0,0,none,0,?_,?_⟩,?_⟩
    ·unfold refR;rw[Hz.out];rw[if_neg (by first|exact Hne.out|simp)];rfl
    ·intro h;rw[Hz.out]at h;exact absurd h (by first|exact Hne.out|simp)
    ·rw[HTe.out];exact below2 Hb0.out _ _ _
  ·have Hlf:Hid (lfT s.data.toList=none):=hd (lf_none (fun i hi=>Hno.out i (by rw[Hl.out]at hi;omega)))
   clear Hno
   have Hz0:=hd hz0
   clear hz0
   go_upto_region 8 with fail
   refine wp_region_list ?_
   (first|go_values|go_skip|go_guarded|go_step|go_upon|go_back)
   (first|go_values|go_skip|go_guarded|go_step|go_upon|go_back)
   (first|go_values|go_skip|go_guarded|go_step|go_upon|go_back)
   (first|go_values|go_skip|go_guarded|go_step|go_upon|go_back)
   (first|go_values|go_skip|go_guarded|go_step|go_upon|go_back)
   (first|go_values|go_skip|go_guarded|go_step|go_upon|go_back)
   (first|go_values|go_skip|go_guarded|go_step|go_upon|go_back)
   (first|go_values|go_skip|go_guarded|go_step|go_upon|go_back)
   refine wpList_store_row (by rfl) 83 _ _ (by rfl) W0.heap.size #[.string s,.int .i64 0,.int .i64 0,.int .i64 0,.slice none 0 0,.slice none 0 0,.int .i64 0,.bool false,.bool false,.bool false,.bool false,.bool false,.bool false,.bool false,.bool false,.bool false,.bool false,.slice none 0 0] (by rfl) (by rfl) 83 _ (heap_alloc_last W0 _) info_reader (by rfl) (by simp[Value.oneCell']) ?_
   rw[World.setRow_alloc_new]
   go_wp2
   have hz0:=Hz0.out
   have hrd0:=rd0 W0 s
   have Hb1:=hd (Hb0.out.alloc (by omega) (.cells #[.string s,.int .i64 0,.int .i64 0,.int .i64 0,.slice none 0 0,.slice none 0 0,.int .i64 0,.bool false,.bool false,.bool false,.bool false,.bool false,.bool false,.bool false,.bool false,.bool false,.bool false,.slice none 0 0] 83))
   have hn1:=hn0.alloc (.cells #[.string s,.int .i64 0,.int .i64 0,.int .i64 0,.slice none 0 0,.slice none 0 0,.int .i64 0,.bool false,.bool false,.bool false,.bool false,.bool false,.bool false,.bool false,.bool false,.bool false,.bool false,.slice none 0 0] 83)
   have hT1:TreeAt (W0.alloc (.cells #[.string s,.int .i64 0,.int .i64 0,.int .i64 0,.slice none 0 0,.slice none 0 0,.int .i64 0,.bool false,.bool false,.bool false,.bool false,.bool false,.bool false,.bool false,.bool false,.bool false,.bool false,.slice none 0 0] 83)) T:=TreeAt.below ⟨⟨t0,ht0⟩,⟨t1,ht1⟩,⟨t2,ht2⟩,tf0,tf1,tf2⟩ ((Below.refl W0.heap.size W0).alloc (Nat.le_refl _) _) (by omega)
   generalize W0.alloc (.cells #[.string s,.int .i64 0,.int .i64 0,.int .i64 0,.slice none 0 0,.slice none 0 0,.int .i64 0,.bool false,.bool false,.bool false,.bool false,.bool false,.bool false,.bool false,.bool false,.bool false,.bool false,.slice none 0 0] 83)=W1 at hrd0 Hb1 hn1 hT1 ⊢
   generalize hRe:W0.heap.size=R at hrd0 hz0 ⊢
   clear hRe ht0 ht1 ht2 tf0 tf1 tf2 Hb0
   subst hz0
   go_loopg [7,8] 61 (fun k _ _ wr=>∃σ H,Rd wr (T+1+1) (T+1) s H σ/\Inv s.data.toList σ/\NamesIn wr/\TreeAt wr T/\Hid (Below T w wr)/\s.size<σ.pos+k/\Hid (goT s.data.toList k σ=r))
   case atStart=>exact⟨st0,_,hrd0,inv0 _,hn1,hT1,Hb1,by show s.size<0+61;omega,Hr.out⟩
   case round=>
    obtain⟨σ,H,hrd,hI,hnr,hTr,Hbr,hgk,HG⟩:=hrel
    have c1:=hrd.c1
    obtain⟨⟨x0,hx0⟩,⟨x1,hx1⟩,⟨x2,hx2⟩,hf0,hf1,hf2⟩:=hTr
    by_cases hlt2:σ.pos<s.size
    ·have q0:(0:Int)<=(σ.pos:Int):=by omega
     have q1:(σ.pos:Int)<(s.size:Int):=by omega
     have hcg:=ch_get s σ.pos hlt2
     obtain⟨e0,σ',hst⟩:∃e0 σ',stepT s.data.toList σ=(e0,σ'):=⟨_,_,rfl⟩
     have Hst:=hd hst
     obtain⟨f,rfl⟩:∃f,gk=f+1:=⟨gk-1,by have:=hI.pos;rw[Hl.out]at this;omega⟩
     have Hc:=hd (step_any hrd hnr hs hI hlt2 (s[σ.pos].toNat:Int) (by rw[hcg]))
     clear hcg hst
     by_cases he:e0=0
     ·subst he
      have HG':Hid (goT s.data.toList f σ'=r):=hd ((goT_more (by rw[Hl.out];exact hlt2) Hst.out).symm.trans HG.out)
      have hIs:=stepT_inv hI (by rw[Hl.out];exact hlt2) Hst.out
      have HI:=hd hIs
      clear hIs
      go_wp2_with fail
      refine Hc.out.mono ?_
      rintro e w2 ⟨rfl,⟨H',hrd2⟩,hb2⟩
      rw[Hst.out]at hrd2 ⊢
      simp only at hrd2 ⊢
      have hT2:TreeAt w2 T:=TreeAt.below ⟨⟨x0,hx0⟩,⟨x1,hx1⟩,⟨x2,hx2⟩,hf0,hf1,hf2⟩ hb2 (by omega)
      have hn2:=hnr.below hb2 (by omega)
      have Hb2:=hd (Hbr.out.trans (hb2.mono (by omega)))
      have HX:=hd hrd2
      clear hrd2 hb2 hrd hI c1 hx0 hx1 hx2 hf0 hf1 hf2
      go_wp2
      go_roundg f
      case measure=>omega
      case rel=>exact⟨σ',H',HX.out,HI.out.1,hn2,hT2,Hb2,by have:=HI.out.2;omega,HG'⟩
     ·have Hz:Hid (parseR s.data.toList r=(e0,σ'.pos,0)):=by
       have hre:r=(e0,σ'):=(HG.out.symm.trans (goT_err (by rw[Hl.out];exact hlt2) (by rw[Hst.out];exact he))).trans Hst.out
       have:=parseR_err (r:=r) Hsh.out Hlf.out (by rw[hre];exact he)
       rw[hre]at this ⊢
       exact hd this
      have hen:((e0:Int) !=0)=true:=by simp;omega
      have Hne:=hd he
      go_wp2_with fail
      refine Hc.out.mono ?_
      rintro e w2 ⟨rfl,⟨H',hrd2⟩,hb2⟩
      rw[Hst.out]at hrd2 ⊢
      simp only at hrd2 ⊢
      have hT2:TreeAt w2 T:=TreeAt.below ⟨⟨x0,hx0⟩,⟨x1,hx1⟩,⟨x2,hx2⟩,hf0,hf1,hf2⟩ hb2 (by omega)
      obtain⟨⟨y0,hy0⟩,⟨y1,hy1⟩,⟨y2,hy2⟩,hg0,hg1,hg2⟩:=hT2
      have Hb2:=hd (Hbr.out.trans (hb2.mono (by omega)))
      have d1:=hrd2.c1
      clear hrd2 hb2 hrd hI c1 hx0 hx1 hx2 hf0 hf1 hf2 he
      go_wp2
      go_region_held3 (fun w'=>w'.cell? ⟨T+1,1,none⟩=some (.int .i64 σ'.pos)) (go_keep) (fail)
      go_wp2
      refine bodyPost_ret (v:= .tuple #[.agg #[.slice none 0 0,.int .i64 0,.slice none 0 0],.int .i64 e0,.int .i64 σ'.pos]) (by simp[results,Tryz.results13,go_sem,hy0,hy1,hy2]) rfl ⟨⟨none,0,0,none,0,?_,?_⟩,?_⟩
      ·unfold refR;rw[Hz.out];rw[if_neg (by first|exact Hne.out|simp)];rfl
      ·intro h;rw[Hz.out]at h;exact absurd h (by first|exact Hne.out|simp)
      ·rw[HTe.out];exact(below2 Hb2.out _ _ _).drew
    ·have hre:r=(0,σ):=HG.out.symm.trans (goT_out (by rw[Hl.out];exact hlt2))
     obtain⟨vi,vo,rs,h4,h5,hlive,ho,hout,hap⟩:=hrd.rows
     have hvo:∃ao cp,vo= .slice ao σ.outer.length cp:=by
      rcases ho.2 with⟨rfl,h0⟩|⟨g,cap,_,rfl,_⟩
      ·exact⟨none,0,by rw[h0]⟩
      ·exact⟨_,_,rfl⟩
     obtain⟨ao,cp,rfl⟩:=hvo
     have c3:=hrd.c3
     have c6:=hrd.c6
     obtain⟨vr,c17,hvr⟩:=hrd.rf
     obtain⟨fa,fc,rfl⟩:=owns_shape hvr
     have HVR:=hd hvr
     clear hvr
     by_cases hoe:σ.outer= []
     ·have hol:σ.outer.length=0:=by rw[hoe];rfl
      rw[hol]at h5
      have hil:σ.inner.items.length<=1000:=by have:=hI.items;have:=hI.pos;rw[Hl.out]at this;omega
      obtain⟨H',hH,hH',D,ra,rc,hvi,hfin⟩:=hlive.finish hil (fun b hb=>hap.2 b (mem_blocks (v:=vi) (by simp) hb))
      subst hvi
      have hF':Fin wr H':=fun g arr hg=>by
       rcases hH' g arr hg with h|⟨_,h⟩
       ·exact hrd.fin g arr h
       ·exact h
      have hbb:∀g arr,H' g=some arr->T+2<=g:=fun g arr hg=>by
       rcases hH' g arr hg with h|⟨h,_⟩
       ·exact hrd.finb g arr h
       ·obtain⟨_,_,hown⟩:=hlive
        exact(hown.lt g h).1
      have HTI:=hd (fun u0 u1 u2=>TreeIn.tree (w0:=w) HTe.out hF' hbb hfin u0 u1 u2)
      have Hc:=hd (rowSize_any H' D (itemSize_any H' D) wr ra σ.inner.items.length rc σ.inner.items hF' hfin)
      have HL:=hd hre
      have Hoe:=hd hoe
      clear hre hrd hlive ho hout hap hH hH' hfin hF' hbb hoe hol hI
      generalize hzz:rowSz (σ.inner.items.map (·.2))=z at Hc
      have Hzz:=hd hzz
      clear hzz
      by_cases hbig:200<z
      ·have Hz:Hid (parseR s.data.toList r=(12,0,0)):=by rw[HL.out];exact hd (parseR_big Hsh.out Hlf.out Hoe.out (by rw[Hzz.out];exact hbig))
       go_wp2_with (go_at_call 24;refine Hc.out.mono ?_;rintro e w' ⟨rfl,rfl⟩)
       refine bodyPost_ret (v:= .tuple #[.agg #[.slice none 0 0,.int .i64 0,.slice none 0 0],.int .i64 12,.int .i64 0]) (by simp[results,Tryz.results13,go_sem,hx0,hx1,hx2]) rfl ⟨⟨none,0,0,none,0,?_,?_⟩,?_⟩
       ·unfold refR;rw[Hz.out];rw[if_neg (by first|exact Hne.out|simp)];rfl
       ·intro h;rw[Hz.out]at h;exact absurd h (by first|exact Hne.out|simp)
       ·rw[HTe.out];exact below2 Hbr.out _ _ _
      ·have Hz:Hid (parseR s.data.toList r=(0,0,σ.groups)):=by rw[HL.out];exact hd (parseR_ok Hsh.out Hlf.out Hoe.out (by rw[Hzz.out];exact hbig))
       go_wp2_with (go_at_call 24;refine Hc.out.mono ?_;rintro e w' ⟨rfl,rfl⟩)
       refine bodyPost_ret (v:= .tuple #[.agg #[.slice ra σ.inner.items.length rc,.int .i64 σ.groups,.slice fa σ.refl.length fc],.int .i64 0,.int .i64 0]) (by simp[results,Tryz.results13,go_sem,hx0,hx1,hx2]) rfl ⟨⟨ra,σ.inner.items.length,rc,fa,fc,?_,?_⟩,?_⟩
       ·unfold refR;rw[Hz.out,if_pos rfl,HL.out]
        rfl
       ·intro _
        rw[HL.out]
        refine⟨HTI.out _ _ _,?_⟩
        unfold RefsIn refR
        rw[<-HL.out,Hz.out,if_pos rfl,HL.out]
        have hTw:=HTe.out
        have hne:∀k,(Value.slice fa σ.refl.length fc).ownBlock=some k->T+2<=k:=fun k hk=>(HVR.out.lt k hk).1
        refine ownsRow_setCell_other (ownsRow_setCell_other (ownsRow_setCell_other (owns_low HVR.out (by omega)) (fun e=>?_) _) (fun e=>?_) _) (fun e=>?_) _
        all_goals
         have:=hne _ e
         simp at this
         try omega
       ·rw[HTe.out];exact below2 Hbr.out _ _ _
     ·have Hz:Hid (parseR s.data.toList r=(11,σ.inner.start,0)):=by rw[hre];exact hd (parseR_open Hsh.out Hlf.out hoe)
      have hol:0<σ.outer.length:=List.length_pos_iff.2 hoe
      have holI:(0:Int)<(σ.outer.length:Int):=by omega
      clear hre hrd hlive ho hout hap hoe hI
      go_wp2
      go_region_held3 (fun w'=>w'.cell? ⟨T+1,3,none⟩=some (.int .i64 σ.inner.start)) (go_keep) (fail)
      go_wp2
      refine bodyPost_ret (v:= .tuple #[.agg #[.slice none 0 0,.int .i64 0,.slice none 0 0],.int .i64 11,.int .i64 σ.inner.start]) (by simp[results,Tryz.results13,go_sem,hx0,hx1,hx2]) rfl ⟨⟨none,0,0,none,0,?_,?_⟩,?_⟩
      ·unfold refR;rw[Hz.out];rw[if_neg (by first|exact Hne.out|simp)];rfl
      ·intro h;rw[Hz.out]at h;exact absurd h (by first|exact Hne.out|simp)
      ·rw[HTe.out];exact(below2 Hbr.out _ _ _).drew
def refT0(l:List UInt8):List Nat:=refR l (goT l 61 st0)
def itsT(l:List UInt8):List It:=(goT l 61 st0).2.inner.items
theorem parse_any(s:ByteArray)(w:World)(hn:NamesIn w)(hs:s.size<=60):
  Calls Tryz.prog 13 #[.string s] w fun e w'=>ParseOut s.data.toList (goT s.data.toList 61 st0) w w' e:=parse_r s w _ rfl hn hs
end Go.Proofs.YtldiemjlpnachaaGreatDoor
