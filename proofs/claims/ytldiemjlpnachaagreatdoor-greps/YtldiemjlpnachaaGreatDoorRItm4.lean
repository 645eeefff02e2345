import Derived.Test.YtldiemjlpnachaaGreatDoorRItm
set_option maxHeartbeats 3200000
set_option maxRecDepth 100000
namespace Go.Proofs.YtldiemjlpnachaaGreatDoor
open Go.RowKit
def upd(f:Nat->Bool)(n:Nat):Nat->Bool:=fun i=>if i=n then true else f i
theorem cnt_same{f g:Nat->Bool}:∀k,(∀i,i<k->f i=g i)->cnt f k=cnt g k
 |0,_=>rfl
 |k+1,h=>by rw[cnt,cnt,cnt_same k (fun i hi=>h i (by omega)),h k (by omega)]
theorem cnt_upd{f:Nat->Bool}{n:Nat}(hf:f n=false):∀k,n<k->cnt (upd f n) k=cnt f k+1
 |0,h=>by omega
 |k+1,h=>by
  rw[cnt,cnt]
  by_cases e:n=k
  ·subst e
   have:cnt (upd f n) n=cnt f n:=cnt_same n (fun i hi=>by unfold upd;rw[if_neg (by omega)])
   rw[this,hf]
   simp[upd]
  ·rw[cnt_upd hf k (by omega)]
   have:upd f n k=f k:=by unfold upd;rw[if_neg (by omega)]
   rw[this]
   omega
section
variable {w : World} {R P : Nat} {s : ByteArray} {H : Fins} {vo : Value} {τ : RSt} {σ : St}
theorem esc_ref(hx:ch s.data.toList σ.pos=92)(h:¬s.size<=σ.pos+1)(n:Nat)(hn1:1<=n)(hn9:n<=9)(hc:ch s.data.toList (σ.pos+1)=48+n):stepT s.data.toList σ=refT σ n:=by
 rw[step_bs hx];unfold escT;rw[if_neg (by rw[len_data];exact h),if_neg (by omega),if_neg (by omega),if_neg (by omega),if_pos (by omega),hc,show 48+n-48=n by omega]
theorem refd_snoc(σ:St)(n i:Nat):(σ.refl++ [n]).contains i=if i=n then true else σ.referred i:=by
 unfold St.referred
 by_cases e:i=n
 ·simp[e]
 ·rw[if_neg e,Bool.eq_iff_iff]
  simp[e]
theorem itm_ref{w w':World}{b n:Nat}(hS:Sim σ τ)(hp:σ.pos+1<s.size)(hst:stepT s.data.toList σ=refT σ n)(hn:n<10)(hdn:τ.done n=true)(hok:τ.used n=true\/cnt τ.used 10≠2)
  (hi:ItPost w w' R P s H vo {τ with used:=upd τ.used n} b ⟨3,1,.back n⟩):ItmPost w w' (.returned (.tuple #[.pointer (some ⟨b,0,none⟩),.int .i64 ((σ.pos:Int)+2)])) R P s H vo σ:=by
 have hl:=len_data s
 have hcl:σ.closed n=true:=by rw[<-hS.done n hn];exact hdn
 have hg:=hS.cl n hcl
 have hcu:cnt τ.used 10=σ.refs:=by rw[hS.rf];exact cnt_same 10 (fun i hi=>hS.used i hi)
 refine⟨b,σ.pos+2,⟨3,1,.back n⟩,_,by congr 1,hi,by omega,by omega,⟨by show(3:Int)≠1;decide,by show(1:Int)<=_;omega⟩,?_⟩
 by_cases hu:σ.referred n=true
 ·have e:refT σ n=(0,{σ with pos:=σ.pos+2,inner:= {σ.inner with items:=σ.inner.items++ [itBack n]}}):=by
   unfold refT;rw[if_neg (by simp[hcl];omega),if_pos hu]
  refine .inl ⟨_,Reach.step (by omega) (hst.trans e) (by show σ.pos<σ.pos+2;omega),⟨hS.done,fun i hi=>?_,by rw[hS.opens];simp[opn],hS.groups,hS.err,hS.g9,hS.cl,hS.rf,hS.r2,hS.num,hS.nums,hS.ol⟩,rfl,rfl,rfl,rfl,itBack n,rfl,⟨rfl,rfl⟩,.inl ⟨by simp,rfl⟩,by simp,by simp⟩
  show upd τ.used n i=σ.referred i
  unfold upd
  by_cases e:i=n
  ·subst e;simp[hu]
  ·rw[if_neg e];exact hS.used i hi
 ·have hu':σ.referred n=false:=by simpa using hu
  have h2:σ.refs≠2:=by
   rw[<-hcu]
   rcases hok with h|h
   ·rw[hS.used n hn]at h;exact absurd h hu
   ·exact h
  have h2':=hS.r2
  have e:refT σ n=(0,{σ with refl:=σ.refl++ [n],pos:=σ.pos+2,inner:= {σ.inner with items:=σ.inner.items++ [itBack n]}}):=by
   unfold refT;rw[if_neg (by simp[hcl];omega),if_neg hu,if_neg (by omega)]
  refine .inl ⟨_,Reach.step (by omega) (hst.trans e) (by show σ.pos<σ.pos+2;omega),⟨hS.done,fun i hi=>?_,by rw[hS.opens];simp[opn],hS.groups,hS.err,hS.g9,hS.cl,?_,by show(σ.refl++ [n]).length<=2;unfold St.refs at h2 h2';simp only[List.length_append,List.length_singleton];omega,hS.num,hS.nums,hS.ol⟩,rfl,rfl,rfl,rfl,itBack n,rfl,⟨rfl,rfl⟩,.inl ⟨by simp,rfl⟩,by simp,by simp⟩
  ·show upd τ.used n i=(σ.refl++ [n]).contains i
   rw[refd_snoc]
   unfold upd
   by_cases e:i=n
   ·simp[e]
   ·rw[if_neg e,if_neg e];exact hS.used i hi
  ·show(σ.refl++ [n]).length=cnt (fun i=>(σ.refl++ [n]).contains i) 10
   have e2:(fun i=>(σ.refl++ [n]).contains i)=upd σ.referred n:=by
    funext i
    rw[refd_snoc]
    rfl
   have e3:=hS.rf
   unfold St.refs at e3
   rw[e2,cnt_upd hu' 10 hn,<-e3]
   simp
theorem itm_noref{w w':World}{b n:Nat}(hS:Sim σ τ)(hp:σ.pos+1<s.size)(hst:stepT s.data.toList σ=refT σ n)(hn:n<10)(hno:τ.done n=false\/(τ.used n=false/\cnt τ.used 10=2))
  (hi:ItPost w w' R P s H vo {τ with err:=10,pl:=σ.pos,used:=upd τ.used n} b ⟨3,1,.back n⟩):ItmPost w w' (.returned (.tuple #[.pointer (some ⟨b,0,none⟩),.int .i64 ((σ.pos:Int)+2)])) R P s H vo σ:=by
 have hl:=len_data s
 have hcu:cnt τ.used 10=σ.refs:=by rw[hS.rf];exact cnt_same 10 (fun i hi=>hS.used i hi)
 have e:refT σ n=(10,σ):=by
  unfold refT
  by_cases hc:σ.groups<n\/σ.closed n=false
  ·rw[if_pos hc]
  ·rw[if_neg hc]
   rcases hno with h|⟨h1,h2⟩
   ·rw[hS.done n hn]at h;exact absurd (Or.inr h) hc
   ·rw[hS.used n hn]at h1
    rw[if_neg (by simp[h1]),if_pos (by omega)]
 exact⟨b,σ.pos+2,⟨3,1,.back n⟩,_,by congr 1,hi,by omega,by omega,⟨by show(3:Int)≠1;decide,by show(1:Int)<=_;omega⟩,res_err (by omega) (hst.trans e) (by omega) rfl rfl rfl⟩
theorem leaf_at{w w3:World}{k:Int}{tr:Tr}{arr:Array Value}{is:ByteArray}{τ':RSt}(h:Rg w3 R P s H vo τ')(hk:Rkp w w3 R P vo vo)(h1:arr.size=262)(h2:arr[0]?=some (.string is))(h3:isKind k is)(h4:LeafTr arr k tr):ItPost w (w3.alloc (.cells arr 102)) R P s H vo τ' w3.heap.size ⟨k,1,tr⟩:=
 leaf_post (h.alloc _) (hk.alloc _) (heap_alloc_last _ _) h1 h2 h3 h4 h.new.2.2.2 h.new.1 h.new.2.1 h.new.2.2.1 hk.size
theorem back_at{w w2:World}{n:Nat}{τ':RSt}(h:Rg w2 R P s H vo τ')(hk:Rkp w w2 R P vo vo)(hn:n<10):ItPost w ((w2.setCell ⟨P,2+n,none⟩ (.bool true)).alloc (.cells (itC ⟨#[98,97,99,107]⟩ n none 0 0) 102)) R P s H vo {τ' with used:=upd τ'.used n} w2.heap.size ⟨3,1,.back n⟩:=by
 have:=leaf_at (k:=3) (is:=⟨#[98,97,99,107]⟩) (h.setUsed n hn) (hk.setP _ _) (itC_size ⟨#[98,97,99,107]⟩ n none 0 0) (itC_0 _ _ _ _ _) (.inr (.inr (.inr ⟨rfl,rfl⟩))) (.inr (.inr (.inr ⟨rfl,n,by omega,rfl,itC_257 _ _ _ _ _⟩)))
 rw[show(w2.setCell ⟨P,2+n,none⟩ (.bool true)).heap.size=w2.heap.size by simp[World.setCell]]at this
 exact this
theorem item_ref_no(h:Rg w R P s H vo τ)(hS:Sim σ τ)(hs:s.size<=60)(hp:σ.pos+1<s.size)(hx:ch s.data.toList σ.pos=92)(n:Nat)(hn1:1<=n)(hn9:n<=9)(hc:ch s.data.toList (σ.pos+1)=48+n)(hdn:τ.done n=false):
  Calls Tryz.prog 33 #[.pointer (some ⟨R,0,none⟩),.int .i64 σ.pos] w fun r w'=>ItmPost w w' r R P s H vo σ:=by
 have c0:=h.c0
 have c1:=h.c1
 have HS:=hd hS
 have Hh:=hd h
 have hp00:σ.pos<s.size:=by omega
 have hx2:(s[σ.pos].toNat:Int)=92:=ch_int hp00 hx
 have hp':(σ.pos:Int)<s.size:=by omega
 have hp0:(0:Int)<=(σ.pos:Int):=by omega
 have hp1:(σ.pos:Int)+1<s.size:=by omega
 have hq0:(0:Int)<=(σ.pos:Int)+1:=by omega
 have h0:=hS.err
 have hv:(s[σ.pos+1].toNat:Int)=n+48:=by rw[ch_get s _ hp,hc];omega
 have Hsw:Hid (sw s.data.toList σ.pos [92,40]=false):=by
  rw[sw2,len_data,hc]
  have e:(48+n==(40:UInt8).toNat)=false:=by simp;omega
  rw[e];simp;trivial
 have Hst:=hd (esc_ref hx (by omega) n hn1 hn9 hc)
 have cdn:=h.cd n (by omega)
 rw[hdn]at cdn
 have cun:=h.pu n (by omega)
 have fP:=h.fP
 clear h hS hx hc
 go_enter Tryz.func33,Tryz.ntmps33
 go_wp2_with (first
  |(go_at_call 31;refine(starts_b s _ _ σ.pos [92,40] _ _ (by omega) rfl Hsw.out (by omega) (by decide) (by decide) (by omega)).mono ?_;rintro e w' ⟨rfl,rfl⟩)
  |(go_at_call 18;refine(wrong_any Hh.out 10 σ.pos _ rfl h0).mono ?_;rintro e w2 ⟨rfl,hr2,hk2⟩;have c1':=hr2.c1;have cun':=hr2.pu n (by omega);have fP':=hr2.fP)
  |refine wp_b2 ⟨#[98,97,99,107]⟩ (.tmp 151) n rfl rfl rfl ?_
  |refine wp_bx (.tmp 152) ⟨#[98,97,99,107]⟩ n none 0 0 rfl rfl rfl ?_)
 refine bodyPost_ret (v:= .tuple #[.pointer (some ⟨_,0,none⟩),.int .i64 ((σ.pos:Int)+2)]) (by simp[results,Tryz.results33,go_sem];rfl) rfl ?_
 exact itm_noref HS.out hp Hst.out (by omega) (.inl hdn) (back_at hr2 hk2 (by omega))
theorem item_ref_used(h:Rg w R P s H vo τ)(hS:Sim σ τ)(hs:s.size<=60)(hp:σ.pos+1<s.size)(hx:ch s.data.toList σ.pos=92)(n:Nat)(hn1:1<=n)(hn9:n<=9)(hc:ch s.data.toList (σ.pos+1)=48+n)(hdn:τ.done n=true)(hu:τ.used n=true):
  Calls Tryz.prog 33 #[.pointer (some ⟨R,0,none⟩),.int .i64 σ.pos] w fun r w'=>ItmPost w w' r R P s H vo σ:=by
 have c0:=h.c0
 have c1:=h.c1
 have HS:=hd hS
 have Hh:=hd h
 have hp00:σ.pos<s.size:=by omega
 have hx2:(s[σ.pos].toNat:Int)=92:=ch_int hp00 hx
 have hp':(σ.pos:Int)<s.size:=by omega
 have hp0:(0:Int)<=(σ.pos:Int):=by omega
 have hp1:(σ.pos:Int)+1<s.size:=by omega
 have hq0:(0:Int)<=(σ.pos:Int)+1:=by omega
 have h0:=hS.err
 have hv:(s[σ.pos+1].toNat:Int)=n+48:=by rw[ch_get s _ hp,hc];omega
 have Hsw:Hid (sw s.data.toList σ.pos [92,40]=false):=by
  rw[sw2,len_data,hc]
  have e:(48+n==(40:UInt8).toNat)=false:=by simp;omega
  rw[e];simp;trivial
 have Hst:=hd (esc_ref hx (by omega) n hn1 hn9 hc)
 have cdn:=h.cd n (by omega)
 rw[hdn]at cdn
 have cun:=h.pu n (by omega)
 have fP:=h.fP
 rw[hu]at cun
 clear h hS hx hc
 go_enter Tryz.func33,Tryz.ntmps33
 go_wp2_with (first
  |(go_at_call 31;refine(starts_b s _ _ σ.pos [92,40] _ _ (by omega) rfl Hsw.out (by omega) (by decide) (by decide) (by omega)).mono ?_;rintro e w' ⟨rfl,rfl⟩)
  |refine wp_b2 ⟨#[98,97,99,107]⟩ (.tmp 151) n rfl rfl rfl ?_
  |refine wp_bx (.tmp 152) ⟨#[98,97,99,107]⟩ n none 0 0 rfl rfl rfl ?_)
 refine bodyPost_ret (v:= .tuple #[.pointer (some ⟨_,0,none⟩),.int .i64 ((σ.pos:Int)+2)]) (by simp[results,Tryz.results33,go_sem];rfl) rfl ?_
 exact itm_ref HS.out hp Hst.out (by omega) hdn (.inl hu) (back_at Hh.out (Rkp.refl _ _ _ _) (by omega))
theorem item_ref_many(h:Rg w R P s H vo τ)(hS:Sim σ τ)(hs:s.size<=60)(hp:σ.pos+1<s.size)(hx:ch s.data.toList σ.pos=92)(n:Nat)(hn1:1<=n)(hn9:n<=9)(hc:ch s.data.toList (σ.pos+1)=48+n)(hdn:τ.done n=true)(hu:τ.used n=false)(hcn:cnt τ.used 10=2):
  Calls Tryz.prog 33 #[.pointer (some ⟨R,0,none⟩),.int .i64 σ.pos] w fun r w'=>ItmPost w w' r R P s H vo σ:=by
 have c0:=h.c0
 have c1:=h.c1
 have HS:=hd hS
 have Hh:=hd h
 have hp00:σ.pos<s.size:=by omega
 have hx2:(s[σ.pos].toNat:Int)=92:=ch_int hp00 hx
 have hp':(σ.pos:Int)<s.size:=by omega
 have hp0:(0:Int)<=(σ.pos:Int):=by omega
 have hp1:(σ.pos:Int)+1<s.size:=by omega
 have hq0:(0:Int)<=(σ.pos:Int)+1:=by omega
 have h0:=hS.err
 have hv:(s[σ.pos+1].toNat:Int)=n+48:=by rw[ch_get s _ hp,hc];omega
 have Hsw:Hid (sw s.data.toList σ.pos [92,40]=false):=by
  rw[sw2,len_data,hc]
  have e:(48+n==(40:UInt8).toNat)=false:=by simp;omega
  rw[e];simp;trivial
 have Hst:=hd (esc_ref hx (by omega) n hn1 hn9 hc)
 have cdn:=h.cd n (by omega)
 rw[hdn]at cdn
 have cun:=h.pu n (by omega)
 have fP:=h.fP
 rw[hu]at cun
 have hcb:((cnt τ.used 10:Int)==2)=true:=by rw[hcn];rfl
 clear h hS hx hc
 go_enter Tryz.func33,Tryz.ntmps33
 go_wp2_with (first
  |(go_at_call 31;refine(starts_b s _ _ σ.pos [92,40] _ _ (by omega) rfl Hsw.out (by omega) (by decide) (by decide) (by omega)).mono ?_;rintro e w' ⟨rfl,rfl⟩)
  |(go_at_call 20;refine(refs_any Hh.out).mono ?_;rintro e w' ⟨rfl,rfl⟩)
  |(go_at_call 18;refine(wrong_any Hh.out 10 σ.pos _ rfl h0).mono ?_;rintro e w2 ⟨rfl,hr2,hk2⟩;have c1':=hr2.c1;have cun':=hr2.pu n (by omega);have fP':=hr2.fP)
  |refine wp_b2 ⟨#[98,97,99,107]⟩ (.tmp 151) n rfl rfl rfl ?_
  |refine wp_bx (.tmp 152) ⟨#[98,97,99,107]⟩ n none 0 0 rfl rfl rfl ?_)
 refine bodyPost_ret (v:= .tuple #[.pointer (some ⟨_,0,none⟩),.int .i64 ((σ.pos:Int)+2)]) (by simp[results,Tryz.results33,go_sem];rfl) rfl ?_
 exact itm_noref HS.out hp Hst.out (by omega) (.inr ⟨hu,hcn⟩) (back_at hr2 hk2 (by omega))
theorem item_ref_new(h:Rg w R P s H vo τ)(hS:Sim σ τ)(hs:s.size<=60)(hp:σ.pos+1<s.size)(hx:ch s.data.toList σ.pos=92)(n:Nat)(hn1:1<=n)(hn9:n<=9)(hc:ch s.data.toList (σ.pos+1)=48+n)(hdn:τ.done n=true)(hu:τ.used n=false)(hcn:cnt τ.used 10≠2):
  Calls Tryz.prog 33 #[.pointer (some ⟨R,0,none⟩),.int .i64 σ.pos] w fun r w'=>ItmPost w w' r R P s H vo σ:=by
 have c0:=h.c0
 have c1:=h.c1
 have HS:=hd hS
 have Hh:=hd h
 have hp00:σ.pos<s.size:=by omega
 have hx2:(s[σ.pos].toNat:Int)=92:=ch_int hp00 hx
 have hp':(σ.pos:Int)<s.size:=by omega
 have hp0:(0:Int)<=(σ.pos:Int):=by omega
 have hp1:(σ.pos:Int)+1<s.size:=by omega
 have hq0:(0:Int)<=(σ.pos:Int)+1:=by omega
 have h0:=hS.err
 have hv:(s[σ.pos+1].toNat:Int)=n+48:=by rw[ch_get s _ hp,hc];omega
 have Hsw:Hid (sw s.data.toList σ.pos [92,40]=false):=by
  rw[sw2,len_data,hc]
  have e:(48+n==(40:UInt8).toNat)=false:=by simp;omega
  rw[e];simp;trivial
 have Hst:=hd (esc_ref hx (by omega) n hn1 hn9 hc)
 have cdn:=h.cd n (by omega)
 rw[hdn]at cdn
 have cun:=h.pu n (by omega)
 have fP:=h.fP
 rw[hu]at cun
 have hcb:((cnt τ.used 10:Int)==2)=false:=by simp;omega
 clear h hS hx hc
 go_enter Tryz.func33,Tryz.ntmps33
 go_wp2_with (first
  |(go_at_call 31;refine(starts_b s _ _ σ.pos [92,40] _ _ (by omega) rfl Hsw.out (by omega) (by decide) (by decide) (by omega)).mono ?_;rintro e w' ⟨rfl,rfl⟩)
  |(go_at_call 20;refine(refs_any Hh.out).mono ?_;rintro e w' ⟨rfl,rfl⟩)
  |refine wp_b2 ⟨#[98,97,99,107]⟩ (.tmp 151) n rfl rfl rfl ?_
  |refine wp_bx (.tmp 152) ⟨#[98,97,99,107]⟩ n none 0 0 rfl rfl rfl ?_)
 refine bodyPost_ret (v:= .tuple #[.pointer (some ⟨_,0,none⟩),.int .i64 ((σ.pos:Int)+2)]) (by simp[results,Tryz.results33,go_sem];rfl) rfl ?_
 exact itm_ref HS.out hp Hst.out (by omega) hdn (.inr hcn) (back_at Hh.out (Rkp.refl _ _ _ _) (by omega))
theorem item_ref(h:Rg w R P s H vo τ)(hS:Sim σ τ)(hs:s.size<=60)(hp:σ.pos+1<s.size)(hx:ch s.data.toList σ.pos=92)(hc:49<=ch s.data.toList (σ.pos+1)/\ch s.data.toList (σ.pos+1)<=57):
  Calls Tryz.prog 33 #[.pointer (some ⟨R,0,none⟩),.int .i64 σ.pos] w fun r w'=>ItmPost w w' r R P s H vo σ:=by
 obtain⟨n,hn⟩:∃n,ch s.data.toList (σ.pos+1)=48+n:=⟨ch s.data.toList (σ.pos+1)-48,by omega⟩
 cases hdn:τ.done n
 ·exact item_ref_no h hS hs hp hx n (by omega) (by omega) hn hdn
 ·cases hu:τ.used n
  ·by_cases hcn:cnt τ.used 10=2
   ·exact item_ref_many h hS hs hp hx n (by omega) (by omega) hn hdn hu hcn
   ·exact item_ref_new h hS hs hp hx n (by omega) (by omega) hn hdn hu hcn
  ·exact item_ref_used h hS hs hp hx n (by omega) (by omega) hn hdn hu
end
end Go.Proofs.YtldiemjlpnachaaGreatDoor
