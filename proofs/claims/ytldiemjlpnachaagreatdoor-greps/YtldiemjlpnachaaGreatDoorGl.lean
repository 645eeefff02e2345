import Derived.Test.YtldiemjlpnachaaGreatDoorGr
set_option maxHeartbeats 3200000
set_option maxRecDepth 100000
namespace Go.Proofs.YtldiemjlpnachaaGreatDoor
open Go.RowKit
structure PgN(w0 w:World)(g:Nat)(l:List UInt8)(N:Nat):Prop where
 p:ProgIn w0 w g l
 lt:g<N
 c:∀v b,w.cell? ⟨g,1,none⟩=some v->v.ownBlock=some b->b<N
theorem PgN.below{w0 w w':World}{g:Nat}{l:List UInt8}{N:Nat}(h:PgN w0 w g l N)(k:Below N w w'):PgN w0 w' g l N:=by
 have lg:=h.lt
 have c:∀i,w'.cell? ⟨g,i,none⟩=w.cell? ⟨g,i,none⟩:=fun i=>k.cell (by exact lg)
 obtain⟨v,h1,h2,h3,⟨css,ho,hs⟩,h4⟩:=h.p.code
 exact⟨⟨(c 0).trans h.p.c0,(c 3).trans h.p.c3,⟨v,(c 1).trans h1,(c 2).trans h2,(c 4).trans h3,⟨css,owns_same ho (fun b hb=>k.block b (h.c v b h1 hb)),hs⟩,h4⟩,h.p.le⟩,h.lt,fun v b hv hb=>h.c v b (by rw[<-c 1];exact hv) hb⟩
def cut(s:List UInt8)(z:Nat×Nat):List UInt8:=(s.drop z.1).take (z.2-z.1)
theorem allE_in{p s:List UInt8}(hok:(parseT p).1=0):∀(f fr:Nat) (z:Nat×Nat),z∈allE p s f fr->fr<=z.1/\z.1<z.2/\z.2<=s.length
 |0,_,_,h=>by simp[allE]at h
 |f+1,fr,z,h=>by
  rw[allE]at h
  split at h
  ·rename_i hf
   cases he:findE p s fr with
   |none=>rw[he]at h;simp at h
   |some x=>
    obtain⟨i,j⟩:=x
    rw[he]at h
    obtain⟨h1,h2,h3⟩:=findE_in hok hf he
    simp only at h
    split at h
    ·rename_i hij
     rcases List.mem_cons.1 h with rfl|h
     ·exact⟨h1,hij,h3⟩
     ·obtain⟨g1,g2,g3⟩:=allE_in hok f j z h
      exact⟨by omega,g2,g3⟩
    ·obtain⟨g1,g2,g3⟩:=allE_in hok f (i+1) z h
     exact⟨by omega,g2,g3⟩
  ·simp at h
theorem allE_len(p s:List UInt8):∀(f fr:Nat),(allE p s f fr).length<=f
 |0,_=>Nat.le_refl _
 |f+1,fr=>by
  rw[allE]
  split
  ·cases findE p s fr with
   |none=>exact Nat.zero_le _
   |some x=>
    obtain⟨i,j⟩:=x
    simp only
    split
    ·exact Nat.succ_le_succ (allE_len p s f j)
    ·exact Nat.le_succ_of_le (allE_len p s f (i+1))
  ·exact Nat.zero_le _
theorem spc_get:∀(L:List (Nat×Nat)) (j:Nat) z,L[j]?=some z->(spc L)[j*2]?=some (.int .i64 z.1)/\(spc L)[j*2+1]?=some (.int .i64 z.2)
 | [],j,z,h=>by simp at h
 |x::r,0,z,h=>by simp at h;subst h;exact⟨rfl,rfl⟩
 |x::r,j+1,z,h=>by
  have:=spc_get r j z (by simpa using h)
  rw[show(j+1)*2=j*2+1+1 by omega]
  exact this
def outM(o:Opt)(num:Nat)(s:List UInt8)(L:List (Nat×Nat)):List UInt8:=L.flatMap fun z=>fmtL o num (cut s z)
theorem fmtL_len(o:Opt)(num:Nat)(hn:num<=1000000)(s:List UInt8):(fmtL o num s).length<=s.length+23:=by
 unfold fmtL
 have:=itoa_len num (by omega)
 split<;>simp<;>omega
theorem outM_len(o:Opt)(num:Nat)(hn:num<=1000000)(s:List UInt8):∀L:List (Nat×Nat),(outM o num s L).length<=L.length*(s.length+23)
 | []=>by simp[outM]
 |z::r=>by
  have h1:=outM_len o num hn s r
  have h2:=fmtL_len o num hn (cut s z)
  have h3:(cut s z).length<=s.length:=by unfold cut;rw[List.length_take,List.length_drop];omega
  have e:outM o num s (z::r)=fmtL o num (cut s z)++outM o num s r:=by unfold outM;rw[List.flatMap_cons]
  rw[e,List.length_append,List.length_cons,Nat.add_mul]
  omega
theorem outM_snoc(o:Opt)(num:Nat)(s:List UInt8)(L:List (Nat×Nat))(z:Nat×Nat):outM o num s (L++ [z])=outM o num s L++fmtL o num (cut s z):=by unfold outM;simp
theorem gmatches_any{w0 w:World}{S g:Nat}{o:Opt}{num ch:Nat}{out p:List UInt8}(m:Gs w S g o num ch out)(ht:Tb w)(hT:0<S)(hP:PgN w0 w g p S)(hok:(parseT p).1=0)(s:ByteArray)(hs:s.size<=5000)(hout:out.length<=90000000000)(hn:num<=1000000)(hiv:o.invert=false):
  Calls Tryz.prog 28 #[.pointer (some ⟨S,0,none⟩),.string s] w fun e w'=>e= .returned (.tuple #[])/\Gs w' S g o num ch (out++outM o num s.data.toList (allE p s.data.toList (s.size+1) 0))/\Gf w w' S:=by
 have c0:=m.c0
 have c2:=m.c2
 rw[hiv]at c2
 have Hm:=hd m
 have Ht:=hd ht
 have HP:=hd hP
 have Hok:=hd hok
 have lS:=m.lt
 have Hl:=hd (len_data s)
 have Hall:=hd (all_any w0 w g p s hok hP.p (by omega))
 clear m ht hP hok hiv
 go_enter Tryz.func28,Tryz.ntmps28
 go_wp2_with fail
 refine Hall.out.mono ?_
 rintro e1 w1 ⟨v,rfl,hb1,ho1⟩
 obtain⟨ua,uc,rfl⟩:=owns_shape ho1
 have HG1:=hd (Gf.of hb1 (Nat.le_of_lt lS))
 have Hm1:=hd (Hm.out.below hb1)
 have Hin:=hd (fun z=>allE_in (p:=p) (s:=s.data.toList) Hok.out (s.size+1) 0 z)
 have Hlen:Hid ((allE p s.data.toList (s.size+1) 0).length<=s.size+1):=hd (allE_len p s.data.toList (s.size+1) 0)
 generalize hLe:allE p s.data.toList (s.size+1) 0=L at*
 have HLe:=hd hLe
 clear hLe
 have hLn:=Hlen.out
 have HO1:=hd ho1
 have Hty:Hid (∀k,(Value.slice ua L.length uc).ownBlock=some k->∃cur,w1.heap[k]?=some (.cells cur 46 (0,0))):=hd (fun k hk=>own_ty HO1.out hk)
 have hLi:(L.length:Int)<=5001:=by omega
 clear hb1 ho1 Hall Hlen c0 c2
 go_wp2_with fail
 go_loopg [20] (L.length+1) (fun f iv wr=>∃t:Nat,iv= .int .i64 t/\t<=L.length/\L.length<t+f/\Hid (Gs wr S g o num ch (out++outM o num s.data.toList (L.take t)))/\Hid (Gf w1 wr S))
 case atStart=>exact⟨0,rfl,Nat.zero_le _,by omega,hd (by rw[List.take_zero];simp only[outM,List.flatMap_nil,List.append_nil];exact Hm1.out),hd (Gf.refl _ _)⟩
 case round=>
  obtain⟨t,rfl,htl,htf,Hmt,HGt⟩:=hrel
  have ht0:(0:Int)<=(t:Int):=by omega
  by_cases hlt:t<L.length
  ·have hlt1:(t:Int)<(L.length:Int):=by omega
   obtain⟨b,cp,he,hbb,hbl⟩:=HO1.out.form (by omega)
   cases he
   obtain⟨cur,hcur⟩:=Hty.out b rfl
   have hbS:b≠S:=by have:=HG1.out.bel.size;omega
   have hcw:=HGt.out.blk b cur _ _ hbS hcur (by decide)
   obtain⟨z1,z2⟩:=spc_get L t L[t] (List.getElem?_eq_getElem hlt)
   have d1:wr.cell? ⟨b,t*2,none⟩=some (.int .i64 L[t].1):=by
    have:=owns_cell HO1.out _ _ z1
    rw[cell_of_row _ _ _ _ _ _ hcur]at this
    rw[cell_of_row _ _ _ _ _ _ hcw]
    exact this
   have d2:wr.cell? ⟨b,t*2+1,none⟩=some (.int .i64 L[t].2):=by
    have:=owns_cell HO1.out _ _ z2
    rw[cell_of_row _ _ _ _ _ _ hcur]at this
    rw[cell_of_row _ _ _ _ _ _ hcw]
    exact this
   obtain⟨_,g2,g3⟩:=Hin.out L[t] (List.getElem_mem hlt)
   rw[Hl.out]at g3
   have HT:Hid (L.take (t+1)=L.take t++ [L[t]]):=hd (List.take_succ_eq_append_getElem hlt)
   generalize L[t]=z at*
   obtain⟨x,y⟩:=z
   simp only at d1 d2 g2 g3
   have hx0:(0:Int)<=(x:Int):=by omega
   have hxy:(x:Int)<=(y:Int):=by omega
   have hys:(y:Int)<=(s.size:Int):=by omega
   have lb:=World.block_lt_of_cell? _ _ d1
   clear hcur hcw z1 z2 Hty
   go_wp2_with fail
   have HGa:Hid (Gf w1 (wr.alloc (.cells #[.int .i64 x,.int .i64 y] 46)) S):=hd (HGt.out.trans (Gf.alloc (Nat.le_of_lt Hmt.out.lt) _))
   have hte:=HG1.out.trans HGa.out
   have HX:Hid ((s.extract x y).data.toList=cut s.data.toList (x,y)):=hd (by
    have:=extract_list s x y
    rw[ByteArray.toList_eq]at this
    exact this)
   have hxs:(s.extract x y).size<=5000:=by
    rw[<-len_data,HX.out]
    unfold cut
    rw[List.length_take,List.length_drop,Hl.out]
    omega
   have hol:(out++outM o num s.data.toList (L.take t)).length<=100000000000:=by
    have h1:=outM_len o num hn s.data.toList (L.take t)
    have h2:(L.take t).length<=5001:=by rw[List.length_take];omega
    have h3:=Nat.mul_le_mul h2 (show s.data.toList.length+23<=5023 by rw[Hl.out];omega)
    rw[List.length_append]
    omega
   refine(gput_any (Hmt.out.alloc _) (Ht.out.below hte.bel hT) (s.extract x y) (by omega) hol hn).mono ?_
   rintro e2 w2 ⟨rfl,hm2,hg2⟩
   have Hm2:Hid (Gs w2 S g o num ch (out++outM o num s.data.toList (L.take (t+1)))):=hd (by
    rw[HT.out,outM_snoc,<-HX.out,<-List.append_assoc]
    exact hm2)
   have HG2:=hd (HGa.out.trans hg2)
   clear hm2 hg2 Hmt HGt HGa hte hol hxs d1 d2 lb
   go_wp2
   go_roundg (gk-1)
   case measure=>omega
   case rel=>exact⟨t+1,by go_num,by omega,by omega,Hm2,HG2⟩
  ·obtain rfl:t=L.length:=by omega
   have Hm2:Hid (Gs wr S g o num ch (out++outM o num s.data.toList L)):=hd (by have h:=Hmt.out;rw[List.take_length]at h;exact h)
   have HG2:=hd (HG1.out.trans HGt.out)
   clear Hmt HGt
   go_wp2
   go_end0
   exact⟨rfl,by rw[HLe.out];exact Hm2.out,HG2.out⟩
def lineOut(p:List UInt8)(o:Opt)(num:Nat)(s:List UInt8):List UInt8:=if o.count=true then []else if o.only=true then(if o.invert=true then []else outM o num s (allE p s (s.length+1) 0))else fmtL o num s
def lineCh(p:List UInt8)(o:Opt)(s:List UInt8):Bool:=(findE p s 0).isSome !=o.invert
theorem gmatches_inv{w:World}{S g:Nat}{o:Opt}{num ch:Nat}{out:List UInt8}(m:Gs w S g o num ch out)(s:ByteArray)(hiv:o.invert=true):
  Calls Tryz.prog 28 #[.pointer (some ⟨S,0,none⟩),.string s] w fun e w'=>e= .returned (.tuple #[])/\w'=w:=by
 have c2:=m.c2
 rw[hiv]at c2
 clear m
 go_enter Tryz.func28,Tryz.ntmps28
 go_wp2
 exact bodyPost_ret (v:= .tuple #[]) (by simp[results,Tryz.results28,go_sem]) rfl ⟨rfl,rfl⟩
structure Sg where
 num:Nat
 ch:Nat
 out:List UInt8
def stepG(p:List UInt8)(o:Opt)(σ:Sg)(s:List UInt8):Sg:=if lineCh p o s=true then⟨σ.num+1,σ.ch+1,σ.out++lineOut p o (σ.num+1) s⟩else⟨σ.num+1,σ.ch,σ.out⟩
theorem gline_any{w0 w:World}{S g:Nat}{o:Opt}{σ:Sg}{p:List UInt8}(m:Gs w S g o σ.num σ.ch σ.out)(ht:Tb w)(hT:0<S)(hP:PgN w0 w g p S)(hok:(parseT p).1=0)(s:ByteArray)(hs:s.size<=5000)(hout:σ.out.length<=90000000000)(hn:σ.num<=900000)(hc:σ.ch<=900000):
  Calls Tryz.prog 15 #[.pointer (some ⟨S,0,none⟩),.string s] w fun e w'=>e= .returned (.tuple #[])/\Gs w' S g o (stepG p o σ s.data.toList).num (stepG p o σ s.data.toList).ch (stepG p o σ s.data.toList).out/\Gf w w' S:=by
 have c5:=m.c5
 have f5:=m.f 5
 have lS:=m.lt
 have Hl:=hd (len_data s)
 have M1:=m.setN (σ.num+1)
 have e1:(((σ.num+1:Nat)):Int)=(σ.num:Int)+1:=by omega
 rw[e1]at M1
 clear e1
 have G1:Gf w (w.setCell ⟨S,5,none⟩ (.int .i64 ((σ.num:Int)+1))) S:=Gf.set _
 have HM1:=hd M1
 have HG1:=hd G1
 have c0:(w.setCell ⟨S,5,none⟩ (.int .i64 ((σ.num:Int)+1))).cell? ⟨S,0,none⟩=some (.pointer (some ⟨g,0,none⟩)):=M1.c0
 have HP:=hd hP
 have Hok:=hd hok
 have Ht:=hd ht
 have hni:(σ.num:Int)<=900000:=by omega
 have hci:(σ.ch:Int)<=900000:=by omega
 clear m ht hP hok M1 G1
 go_enter Tryz.func15,Tryz.ntmps15
 go_wp2_with fail
 have Hfd:Hid (Calls Tryz.prog 27 #[.pointer (some ⟨g,0,none⟩),.string s,.int .i64 0] (w.setCell ⟨S,5,none⟩ (.int .i64 ((σ.num:Int)+1))) fun e w'=>e= .returned (resE (findE p s.data.toList 0))/\Below (w.setCell ⟨S,5,none⟩ (.int .i64 ((σ.num:Int)+1))).heap.size (w.setCell ⟨S,5,none⟩ (.int .i64 ((σ.num:Int)+1))) w'):=hd (by
  have h:=pfind_fun w0 (w.setCell ⟨S,5,none⟩ (.int .i64 ((σ.num:Int)+1))) g p s ((0:Nat):Int) Hok.out (HP.out.below HG1.out.bel).p (by omega)
  rw[findI_nat _ _ (Nat.zero_le _)]at h
  exact h)
 refine Hfd.out.mono ?_
 rintro e2 w1 ⟨rfl,hb1⟩
 have Hm1:=hd (HM1.out.below hb1)
 have HG2:=hd (HG1.out.trans (Gf.of hb1 (by simp[World.setCell];omega)))
 have c1:=Hm1.out.c1
 have c2:=Hm1.out.c2
 have c3:=Hm1.out.c3
 have c6:=Hm1.out.c6
 have f6:=Hm1.out.f 6
 have lS1:=Hm1.out.lt
 clear hb1 Hfd c0 c5 f5 HM1 HG1 lS
 have Hst:Hid (∀fd,(findE p s.data.toList 0).isSome=fd->stepG p o σ s.data.toList=if fd !=o.invert then⟨σ.num+1,σ.ch+1,σ.out++lineOut p o (σ.num+1) s.data.toList⟩else⟨σ.num+1,σ.ch,σ.out⟩):=hd (fun fd h=>by unfold stepG lineCh;rw[h])
 have Hlo:Hid (lineOut p o (σ.num+1) s.data.toList=if o.count=true then []else if o.only=true then(if o.invert=true then []else outM o (σ.num+1) s.data.toList (allE p s.data.toList (s.size+1) 0))else fmtL o (σ.num+1) s.data.toList):=hd (by unfold lineOut;rw[Hl.out])
 cases hfe:findE p s.data.toList 0 with
 |none=>
  have hst:=Hst.out false (by rw[hfe];rfl)
  unfold resE
  cases hiv:o.invert with
  |false=>
   rw[hiv]at c2 hst
   have HS:Hid (stepG p o σ s.data.toList=⟨σ.num+1,σ.ch,σ.out⟩):=hd hst
   clear hst Hst hfe
   go_wp2
   refine bodyPost_ret (v:= .tuple #[]) (by simp[results,Tryz.results15,go_sem]) rfl ⟨rfl,?_,HG2.out⟩
   rw[HS.out]
   exact Hm1.out
  |true=>
   rw[hiv]at c2 hst
   have HS:Hid (stepG p o σ s.data.toList=⟨σ.num+1,σ.ch+1,σ.out++lineOut p o (σ.num+1) s.data.toList⟩):=hd hst
   clear hst Hst hfe
   have HM2:Hid (Gs (w1.setCell ⟨S,6,none⟩ (.int .i64 ((σ.ch:Int)+1))) S g o (σ.num+1) (σ.ch+1) σ.out):=hd (by
    have h:=Hm1.out.setC (σ.ch+1)
    rw[show(((σ.ch+1:Nat)):Int)=(σ.ch:Int)+1 by omega]at h
    exact h)
   have HG3:Hid (Gf w (w1.setCell ⟨S,6,none⟩ (.int .i64 ((σ.ch:Int)+1))) S):=hd (HG2.out.trans (Gf.set _))
   cases hct:o.count with
   |true=>
    rw[hct]at c3
    have HL:Hid (lineOut p o (σ.num+1) s.data.toList= []):=hd (by rw[Hlo.out,if_pos hct])
    clear hct Hlo
    go_wp2
    refine bodyPost_ret (v:= .tuple #[]) (by simp[results,Tryz.results15,go_sem]) rfl ⟨rfl,?_,HG3.out⟩
    rw[HS.out,HL.out,List.append_nil]
    exact HM2.out
   |false=>
    rw[hct]at c3
    cases hon:o.only with
    |true=>
     rw[hon]at c1
     have HL:Hid (lineOut p o (σ.num+1) s.data.toList= []):=hd (by rw[Hlo.out,if_neg (by rw[hct];simp),if_pos hon,if_pos hiv])
     have Hiv:=hd hiv
     clear hct hon Hlo hiv
     go_wp2_with fail
     refine(gmatches_inv HM2.out s Hiv.out).mono ?_
     rintro e3 w3 ⟨rfl,hw3⟩
     have HM3:Hid (Gs w3 S g o (stepG p o σ s.data.toList).num (stepG p o σ s.data.toList).ch (stepG p o σ s.data.toList).out/\Gf w w3 S):=hd (by rw[HS.out,HL.out,List.append_nil,hw3];exact⟨HM2.out,HG3.out⟩)
     clear hw3
     go_wp2
     go_end0
     exact⟨rfl,HM3.out⟩
    |false=>
     rw[hon]at c1
     have HL:Hid (lineOut p o (σ.num+1) s.data.toList=fmtL o (σ.num+1) s.data.toList):=hd (by rw[Hlo.out,if_neg (by rw[hct];simp),if_neg (by rw[hon];simp)])
     clear hct hon Hlo
     go_wp2_with fail
     refine(gput_any HM2.out (Ht.out.below HG3.out.bel hT) s (by omega) (by omega) (by omega)).mono ?_
     rintro e3 w3 ⟨rfl,hm3,hg3⟩
     have HM3:Hid (Gs w3 S g o (stepG p o σ s.data.toList).num (stepG p o σ s.data.toList).ch (stepG p o σ s.data.toList).out/\Gf w w3 S):=hd (by rw[HS.out,HL.out];exact⟨hm3,HG3.out.trans hg3⟩)
     clear hm3 hg3
     go_wp2
     go_end0
     exact⟨rfl,HM3.out⟩
 |some x=>
  obtain⟨x,y⟩:=x
  have hst:=Hst.out true (by rw[hfe];rfl)
  unfold resE
  cases hiv:o.invert with
  |true=>
   rw[hiv]at c2 hst
   have HS:Hid (stepG p o σ s.data.toList=⟨σ.num+1,σ.ch,σ.out⟩):=hd hst
   clear hst Hst hfe
   go_wp2
   refine bodyPost_ret (v:= .tuple #[]) (by simp[results,Tryz.results15,go_sem]) rfl ⟨rfl,?_,HG2.out⟩
   rw[HS.out]
   exact Hm1.out
  |false=>
   rw[hiv]at c2 hst
   have HS:Hid (stepG p o σ s.data.toList=⟨σ.num+1,σ.ch+1,σ.out++lineOut p o (σ.num+1) s.data.toList⟩):=hd hst
   clear hst Hst hfe
   have HM2:Hid (Gs (w1.setCell ⟨S,6,none⟩ (.int .i64 ((σ.ch:Int)+1))) S g o (σ.num+1) (σ.ch+1) σ.out):=hd (by
    have h:=Hm1.out.setC (σ.ch+1)
    rw[show(((σ.ch+1:Nat)):Int)=(σ.ch:Int)+1 by omega]at h
    exact h)
   have HG3:Hid (Gf w (w1.setCell ⟨S,6,none⟩ (.int .i64 ((σ.ch:Int)+1))) S):=hd (HG2.out.trans (Gf.set _))
   cases hct:o.count with
   |true=>
    rw[hct]at c3
    have HL:Hid (lineOut p o (σ.num+1) s.data.toList= []):=hd (by rw[Hlo.out,if_pos hct])
    clear hct Hlo
    go_wp2
    refine bodyPost_ret (v:= .tuple #[]) (by simp[results,Tryz.results15,go_sem]) rfl ⟨rfl,?_,HG3.out⟩
    rw[HS.out,HL.out,List.append_nil]
    exact HM2.out
   |false=>
    rw[hct]at c3
    cases hon:o.only with
    |true=>
     rw[hon]at c1
     have HL:Hid (lineOut p o (σ.num+1) s.data.toList=outM o (σ.num+1) s.data.toList (allE p s.data.toList (s.size+1) 0)):=hd (by rw[Hlo.out,if_neg (by rw[hct];simp),if_pos hon,if_neg (by rw[hiv];simp)])
     have Hiv:=hd hiv
     clear hct hon Hlo hiv
     go_wp2_with fail
     refine(gmatches_any HM2.out (Ht.out.below HG3.out.bel hT) hT (HP.out.below HG3.out.bel) Hok.out s hs hout (by omega) Hiv.out).mono ?_
     rintro e3 w3 ⟨rfl,hm3,hg3⟩
     have HM3:Hid (Gs w3 S g o (stepG p o σ s.data.toList).num (stepG p o σ s.data.toList).ch (stepG p o σ s.data.toList).out/\Gf w w3 S):=hd (by rw[HS.out,HL.out];exact⟨hm3,HG3.out.trans hg3⟩)
     clear hm3 hg3
     go_wp2
     go_end0
     exact⟨rfl,HM3.out⟩
    |false=>
     rw[hon]at c1
     have HL:Hid (lineOut p o (σ.num+1) s.data.toList=fmtL o (σ.num+1) s.data.toList):=hd (by rw[Hlo.out,if_neg (by rw[hct];simp),if_neg (by rw[hon];simp)])
     clear hct hon Hlo
     go_wp2_with fail
     refine(gput_any HM2.out (Ht.out.below HG3.out.bel hT) s (by omega) (by omega) (by omega)).mono ?_
     rintro e3 w3 ⟨rfl,hm3,hg3⟩
     have HM3:Hid (Gs w3 S g o (stepG p o σ s.data.toList).num (stepG p o σ s.data.toList).ch (stepG p o σ s.data.toList).out/\Gf w w3 S):=hd (by rw[HS.out,HL.out];exact⟨hm3,HG3.out.trans hg3⟩)
     clear hm3 hg3
     go_wp2
     go_end0
     exact⟨rfl,HM3.out⟩
end Go.Proofs.YtldiemjlpnachaaGreatDoor
