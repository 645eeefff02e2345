import Derived.Test.YtldiemjlpnachaaGreatDoorGl
set_option maxHeartbeats 3200000
set_option maxRecDepth 100000
namespace Go.Proofs.YtldiemjlpnachaaGreatDoor
open Go.RowKit
def linesG:List UInt8->List UInt8->List (List UInt8)
 |cur,[]=>if cur= []then []else [cur]
 |cur,c::r=>if c=10 then cur::linesG [] r else linesG (cur++ [c]) r
def runG(p:List UInt8)(o:Opt)(σ:Sg)(ls:List (List UInt8)):Sg:=ls.foldl (stepG p o) σ
theorem cut_snoc{t:List UInt8}{a i:Nat}(ha:a<=i)(hi:i<t.length):(t.drop a).take (i-a)++ [t[i]]=(t.drop a).take (i+1-a):=by
 rw[show i+1-a=(i-a)+1 by omega,List.take_succ_eq_append_getElem (by rw[List.length_drop];omega)]
 congr 2
 rw[List.getElem_drop]
 congr 1
 omega
theorem lineOut_len(p:List UInt8)(o:Opt)(num:Nat)(hn:num<=1000000)(s:List UInt8)(hs:s.length<=4000):(lineOut p o num s).length<=17000000:=by
 unfold lineOut
 split
 ·simp
 ·split
  ·split
   ·simp
   ·have h1:=outM_len o num hn s (allE p s (s.length+1) 0)
    have h2:=Nat.mul_le_mul (allE_len p s (s.length+1) 0) (show s.length+23<=4023 by omega)
    have h3:(s.length+1)*4023<=4001*4023:=Nat.mul_le_mul_right _ (by omega)
    omega
  ·have:=fmtL_len o num hn s
   omega
def Sml(σ:Sg)(i:Nat):Prop:=σ.num<=i/\σ.ch<=σ.num/\σ.out.length<=σ.num*17000000
theorem Sml.step{p:List UInt8}{o:Opt}{σ:Sg}{i:Nat}(h:Sml σ i)(hi:i<=4000){s:List UInt8}(hs:s.length<=4000):Sml (stepG p o σ s) (i+1):=by
 obtain⟨h1,h2,h3⟩:=h
 have h4:=lineOut_len p o (σ.num+1) (by omega) s hs
 unfold stepG
 split
 ·refine⟨Nat.succ_le_succ h1,Nat.succ_le_succ h2,?_⟩
  show(σ.out++lineOut p o (σ.num+1) s).length<=(σ.num+1)*17000000
  rw[List.length_append,Nat.add_mul]
  omega
 ·exact⟨Nat.succ_le_succ h1,Nat.le_succ_of_le h2,Nat.le_trans h3 (Nat.mul_le_mul_right _ (Nat.le_succ _))⟩
theorem glines_any{w0 w:World}{S g:Nat}{o:Opt}{p:List UInt8}(m:Gs w S g o 0 0 [])(ht:Tb w)(hT:0<S)(hP:PgN w0 w g p S)(hok:(parseT p).1=0)(s:ByteArray)(hs:s.size<=4000):
  Calls Tryz.prog 8 #[.pointer (some ⟨S,0,none⟩),.string s] w fun e w'=>e= .returned (.tuple #[])/\Gs w' S g o (runG p o ⟨0,0,[]⟩ (linesG [] s.data.toList)).num (runG p o ⟨0,0,[]⟩ (linesG [] s.data.toList)).ch (runG p o ⟨0,0,[]⟩ (linesG [] s.data.toList)).out/\Gf w w' S:=by
 have Hm:=hd m
 have Ht:=hd ht
 have HP:=hd hP
 have Hok:=hd hok
 have Hl:=hd (len_data s)
 have hs1:(s.size:Int)<=4000:=by omega
 clear m ht hP hok
 go_enter Tryz.func8,Tryz.ntmps8
 go_wp2_with fail
 go_loopg [4,5] (s.size+1) (fun f av iv wr=>∃(a i:Nat) (σ:Sg),av= .int .i64 a/\iv= .int .i64 i/\a<=i/\i<=s.size/\s.size<i+f/\Hid (Sml σ i)/\Hid (Gs wr S g o σ.num σ.ch σ.out)/\Hid (Gf w wr S)/\Hid (runG p o σ (linesG ((s.data.toList.drop a).take (i-a)) (s.data.toList.drop i))=runG p o ⟨0,0,[]⟩ (linesG [] s.data.toList)))
 case atStart=>exact⟨0,0,⟨0,0,[]⟩,rfl,rfl,Nat.le_refl _,Nat.zero_le _,by omega,hd ⟨Nat.le_refl _,Nat.le_refl _,Nat.le_refl _⟩,Hm,hd (Gf.refl _ _),hd rfl⟩
 case round=>
  obtain⟨a,i,σ,rfl,rfl,hai,his,hif,HZ,Hmi,HGi,HR⟩:=hrel
  have ha0:(0:Int)<=(a:Int):=by omega
  have hi0:(0:Int)<=(i:Int):=by omega
  have haI:(a:Int)<=(i:Int):=by omega
  by_cases hlt:i<s.size
  ·have hlt1:(i:Int)<(s.size:Int):=by omega
   have hil:i<s.data.toList.length:=by rw[Hl.out];exact hlt
   have Hch:Hid ((s[i]'hlt).toNat=(s.data.toList[i]).toNat):=hd (by
    rw[ch_get s i hlt]
    unfold ch
    rw[List.getElem?_eq_getElem hil]
    rfl)
   have Hdr:Hid (s.data.toList.drop i=s.data.toList[i]::s.data.toList.drop (i+1)):=hd (List.drop_eq_getElem_cons hil)
   by_cases hc:s.data.toList[i]=10
   ·have hcb:(((s[i]'hlt).toNat:Int)==10)=true:=by rw[Hch.out,hc];rfl
    have HX:Hid ((s.extract a i).data.toList=(s.data.toList.drop a).take (i-a)):=hd (by
     have:=extract_list s a i
     rw[ByteArray.toList_eq]at this
     exact this)
    have hxs:(s.extract a i).size<=4000:=by
     rw[<-len_data,HX.out,List.length_take,List.length_drop,Hl.out]
     omega
    have HR1:Hid (runG p o (stepG p o σ (s.extract a i).data.toList) (linesG ((s.data.toList.drop (i+1)).take (i+1-(i+1))) (s.data.toList.drop (i+1)))=runG p o ⟨0,0,[]⟩ (linesG [] s.data.toList)):=hd (by
     have h:=HR.out
     rw[Hdr.out,linesG,if_pos hc,<-HX.out]at h
     rw[Nat.sub_self,List.take_zero]
     exact h)
    have HZ1:=hd (HZ.out.step (p:=p) (o:=o) (by omega) (s:=(s.extract a i).data.toList) (by rw[len_data];exact hxs))
    have hz:=HZ.out
    have HL:Hid (Calls Tryz.prog 15 #[.pointer (some ⟨S,0,none⟩),.string (s.extract a i)] wr fun e w'=>e= .returned (.tuple #[])/\Gs w' S g o (stepG p o σ (s.extract a i).data.toList).num (stepG p o σ (s.extract a i).data.toList).ch (stepG p o σ (s.extract a i).data.toList).out/\Gf wr w' S):=hd (gline_any Hmi.out (Ht.out.below HGi.out.bel hT) hT (HP.out.below HGi.out.bel) Hok.out (s.extract a i) (by omega) (by obtain⟨z1,z2,z3⟩:=hz;omega) (by obtain⟨z1,z2,z3⟩:=hz;omega) (by obtain⟨z1,z2,z3⟩:=hz;omega))
    clear hc Hch Hdr hz
    go_wp2_with fail
    refine HL.out.mono ?_
    rintro e1 w1 ⟨rfl,hm1,hg1⟩
    have Hm1:=hd hm1
    have HG1:=hd (HGi.out.trans hg1)
    clear hm1 hg1 HL
    go_wp2
    go_roundg (gk-1)
    case measure=>omega
    case rel=>exact⟨i+1,i+1,_,by go_num,by go_num,Nat.le_refl _,by omega,by omega,HZ1,Hm1,HG1,HR1⟩
   ·have hcb:(((s[i]'hlt).toNat:Int)==10)=false:=by
     rw[beq_eq_false_iff_ne,Hch.out]
     intro h
     apply hc
     apply UInt8.toNat_inj.1
     show _=10
     omega
    have HR1:Hid (runG p o σ (linesG ((s.data.toList.drop a).take (i+1-a)) (s.data.toList.drop (i+1)))=runG p o ⟨0,0,[]⟩ (linesG [] s.data.toList)):=hd (by
     have h:=HR.out
     rw[Hdr.out,linesG,if_neg hc,cut_snoc hai hil]at h
     exact h)
    have HZ1:Hid (Sml σ (i+1)):=hd (by obtain⟨z1,z2,z3⟩:=HZ.out;exact⟨by omega,z2,z3⟩)
    clear hc Hch Hdr
    go_wp2
    go_roundg (gk-1)
    case measure=>omega
    case rel=>exact⟨a,i+1,σ,rfl,by go_num,by omega,by omega,by omega,HZ1,Hmi,HGi,HR1⟩
  ·obtain rfl:i=s.size:=by omega
   have HD:Hid (s.data.toList.drop s.size= []):=hd (List.drop_eq_nil_of_le (by rw[Hl.out];exact Nat.le_refl _))
   by_cases hal:a<s.size
   ·have hal1:(a:Int)<(s.size:Int):=by omega
    have HX:Hid ((s.extract a s.size).data.toList=(s.data.toList.drop a).take (s.size-a)):=hd (by
     have:=extract_list s a s.size
     rw[ByteArray.toList_eq]at this
     exact this)
    have hxs:(s.extract a s.size).size<=4000:=by
     rw[<-len_data,HX.out,List.length_take,List.length_drop,Hl.out]
     omega
    have HR1:Hid (stepG p o σ (s.extract a s.size).data.toList=runG p o ⟨0,0,[]⟩ (linesG [] s.data.toList)):=hd (by
     have h:=HR.out
     rw[HD.out,linesG,if_neg (by
      intro e
      have:=congrArg List.length e
      rw[List.length_take,List.length_drop,Hl.out]at this
      simp at this
      omega),<-HX.out]at h
     exact h)
    have hz:=HZ.out
    have HL:Hid (Calls Tryz.prog 15 #[.pointer (some ⟨S,0,none⟩),.string (s.extract a s.size)] wr fun e w'=>e= .returned (.tuple #[])/\Gs w' S g o (stepG p o σ (s.extract a s.size).data.toList).num (stepG p o σ (s.extract a s.size).data.toList).ch (stepG p o σ (s.extract a s.size).data.toList).out/\Gf wr w' S):=hd (gline_any Hmi.out (Ht.out.below HGi.out.bel hT) hT (HP.out.below HGi.out.bel) Hok.out (s.extract a s.size) (by omega) (by obtain⟨z1,z2,z3⟩:=hz;omega) (by obtain⟨z1,z2,z3⟩:=hz;omega) (by obtain⟨z1,z2,z3⟩:=hz;omega))
    clear hz
    go_wp2_with fail
    refine HL.out.mono ?_
    rintro e1 w1 ⟨rfl,hm1,hg1⟩
    have HF:Hid (Gs w1 S g o (runG p o ⟨0,0,[]⟩ (linesG [] s.data.toList)).num (runG p o ⟨0,0,[]⟩ (linesG [] s.data.toList)).ch (runG p o ⟨0,0,[]⟩ (linesG [] s.data.toList)).out/\Gf w w1 S):=hd (by rw[<-HR1.out];exact⟨hm1,HGi.out.trans hg1⟩)
    clear hm1 hg1 HL
    go_wp2
    go_end0
    exact⟨rfl,HF.out⟩
   ·have hal1:¬(a:Int)<(s.size:Int):=by omega
    have HF:Hid (Gs wr S g o (runG p o ⟨0,0,[]⟩ (linesG [] s.data.toList)).num (runG p o ⟨0,0,[]⟩ (linesG [] s.data.toList)).ch (runG p o ⟨0,0,[]⟩ (linesG [] s.data.toList)).out/\Gf w wr S):=hd (by
     have h:=HR.out
     rw[HD.out,linesG,show s.size-a=0 by omega,List.take_zero,if_pos rfl]at h
     rw[<-h]
     exact⟨Hmi.out,HGi.out⟩)
    go_wp2
    go_end0
    exact⟨rfl,HF.out⟩
end Go.Proofs.YtldiemjlpnachaaGreatDoor
set_option maxHeartbeats 3200000
set_option maxRecDepth 100000
namespace Go.Proofs.YtldiemjlpnachaaGreatDoor
open Go.RowKit
theorem app_l(a b:ByteArray):(a++b).data.toList=a.data.toList++b.data.toList:=by rw[ByteArray.data_append];simp
def grepE(p t:List UInt8)(o:Opt):List UInt8×Nat:=if 4000<t.length then([],2)else if(parseT p).1≠0 then([],2)else
 (if o.count=true then Lib.itoa ((runG p o ⟨0,0,[]⟩ (linesG [] t)).ch:Int)++ [10]else(runG p o ⟨0,0,[]⟩ (linesG [] t)).out,if 0<(runG p o ⟨0,0,[]⟩ (linesG [] t)).ch then 0 else 1)
def optV(o:Opt):Value:= .agg #[.bool o.only,.bool o.invert,.bool o.count,.bool o.number]
theorem Tb.lt{w:World}(h:Tb w):0<w.heap.size:=by
 unfold Tb Lib.TabIs World.var? at h
 rw[gTb]at h
 simp only[Option.bind_some]at h
 cases hh:w.heap[0]? with
 |none=>rw[hh]at h;cases h
 |some x=>exact(Array.getElem?_eq_some_iff.1 hh).1
theorem conv_nil(w:World):(convert 32 9 (.slice none 0 0)).run Tryz.prog w= .ok (.string ⟨#[]⟩) w:=by kernel_rfl
theorem conv_own{w:World}{base n:Nat}{v:Value}{out:List UInt8}(hn:out.length=n)(h:w.ownsRow base 5 1 v n (byC out)):(convert 32 9 v).run Tryz.prog w= .ok (.string ⟨out.toArray⟩) w:=by
 subst hn
 rcases h.2 with⟨h0,h1⟩|⟨g,cap,cur,hv,_,hg,_⟩
 ·rw[h0]
  have:out= []:=List.eq_nil_of_length_eq_zero h1
  rw[this]
  exact conv_nil w
 ·subst hv
  refine run_convert_bytes_back (P:=Tryz.prog) w 32 9 5 ⟨g,0,none⟩ cap out Tryz.underlying32 Tryz.underlying5 Tryz.underlying9 (fun j hj=>?_)
  have e:(⟨g,0,none⟩:Addr).add j=⟨g,j,none⟩:=by unfold Addr.add;split<;>simp_all
  rw[e]
  refine owns_cell h j _ ?_
  unfold byC
  rw[List.getElem?_map,List.getElem?_eq_getElem hj]
  rfl
def GrepP(p t:List UInt8)(o:Opt)(w w':World)(e:Ending):Prop:=Below w.heap.size w w'/\∃A:ByteArray,e= .returned (.tuple #[.string A,.int .i64 (grepE p t o).2])/\A.data.toList=(grepE p t o).1
theorem runG_sml{p:List UInt8}{o:Opt}:∀(t cur:List UInt8) (σ:Sg) (i:Nat),Sml σ i->i+t.length<=4000->cur.length+t.length<=4000->Sml (runG p o σ (linesG cur t)) (i+t.length+1)
 | [],cur,σ,i,h,hi,hc=>by
  rw[linesG]
  split
  ·obtain⟨z1,z2,z3⟩:=h
   exact⟨by show σ.num<=_;simp;omega,z2,z3⟩
  ·exact h.step (by simp at hi;omega) (by simp at hc;omega)
 |c::r,cur,σ,i,h,hi,hc=>by
  simp only[List.length_cons]at hi hc
  rw[linesG,List.length_cons]
  split
  ·have h2:=runG_sml (p:=p) (o:=o) r [] (stepG p o σ cur) (i+1) (h.step (by omega) (by omega)) (by omega) (by simp;omega)
   rw[show i+(r.length+1)+1=i+1+r.length+1 by omega]
   exact h2
  ·have h2:=runG_sml (p:=p) (o:=o) r (cur++ [c]) σ (i+1) (by obtain⟨z1,z2,z3⟩:=h;exact⟨by omega,z2,z3⟩) (by omega) (by simp;omega)
   rw[show i+(r.length+1)+1=i+1+r.length+1 by omega]
   exact h2
theorem ggrep_any(p t:ByteArray)(o:Opt)(w:World)(hn:NamesIn w)(ht:Tb w)(hp:p.size<=maxLen)(hts:t.size<=maxLen):
  Calls Tryz.prog 4 #[.string p,.string t,optV o] w fun e w'=>GrepP p.data.toList t.data.toList o w w' e:=by
 have Hpl:=hd (len_data p)
 have Htl:=hd (len_data t)
 have Hn:=hd hn
 have Ht:=hd ht
 clear hn ht
 unfold maxLen at hts
 by_cases h4:4000<t.size
 ·have h4I:(4000:Int)<(t.size:Int):=by omega
  have HE:Hid (grepE p.data.toList t.data.toList o=([],2)):=hd (by unfold grepE;rw[if_pos (by rw[Htl.out];exact h4)])
  unfold optV
  go_enter Tryz.func4,Tryz.ntmps4
  go_wp2
  refine bodyPost_ret (v:= .tuple #[.string ⟨#[]⟩,.int .i64 2]) (by simp[results,Tryz.results4,go_sem]) rfl ⟨(Below.refl _ _).alloc (Nat.le_refl _) _,⟨#[]⟩,?_,?_⟩
  ·rw[HE.out];rfl
  ·rw[HE.out]
 ·have h4I:¬(4000:Int)<(t.size:Int):=by omega
  have HB0:Hid (Below w.heap.size w (w.alloc (.cells #[.bool o.only,.bool o.invert,.bool o.count,.bool o.number] 25))):=hd ((Below.refl _ _).alloc (Nat.le_refl _) _)
  have Hc:=hd (compile_any p (w.alloc (.cells #[.bool o.only,.bool o.invert,.bool o.count,.bool o.number] 25)) (Hn.out.alloc _) hp)
  have hob:(w.alloc (.cells #[.bool o.only,.bool o.invert,.bool o.count,.bool o.number] 25)).heap[w.heap.size]?=some (.cells #[.bool o.only,.bool o.invert,.bool o.count,.bool o.number] 25 (0,0)):=heap_alloc_new _ _
  have hz0:(w.alloc (.cells #[.bool o.only,.bool o.invert,.bool o.count,.bool o.number] 25)).heap.size=w.heap.size+1:=by simp
  have Hob:=hd hob
  have Hz0:=hd hz0
  clear hob hz0
  unfold optV
  go_enter Tryz.func4,Tryz.ntmps4
  go_wp2_with fail
  refine Hc.out.mono ?_
  generalize w.alloc (.cells #[.bool o.only,.bool o.invert,.bool o.count,.bool o.number] 25)=W0 at*
  rintro e1 w1 ⟨hb1,hh⟩
  have HB1:=hd (HB0.out.trans (hb1.mono HB0.out.size))
  have hopt:w1.heap[w.heap.size]?=some (.cells #[.bool o.only,.bool o.invert,.bool o.count,.bool o.number] 25 (0,0)):=(hb1.block _ (by rw[Hz0.out];omega)).trans Hob.out
  have q0:w1.cell? ⟨w.heap.size,0,none⟩=some (.bool o.only):=by rw[cell_of_row _ _ _ _ _ _ hopt];rfl
  have q1:w1.cell? ⟨w.heap.size,1,none⟩=some (.bool o.invert):=by rw[cell_of_row _ _ _ _ _ _ hopt];rfl
  have q2:w1.cell? ⟨w.heap.size,2,none⟩=some (.bool o.count):=by rw[cell_of_row _ _ _ _ _ _ hopt];rfl
  have q3:w1.cell? ⟨w.heap.size,3,none⟩=some (.bool o.number):=by rw[cell_of_row _ _ _ _ _ _ hopt];rfl
  have Hopt:=hd hopt
  have lO:=World.block_lt_of_cell? _ _ q0
  clear hb1 hopt Hc HB0 Hob Hz0
  rcases hh with⟨he,g,hg,rfl,hpi⟩|⟨he,rfl⟩
  ·have HE:Hid (grepE p.data.toList t.data.toList o=(if o.count=true then Lib.itoa ((runG p.data.toList o ⟨0,0,[]⟩ (linesG [] t.data.toList)).ch:Int)++ [10]else(runG p.data.toList o ⟨0,0,[]⟩ (linesG [] t.data.toList)).out,if 0<(runG p.data.toList o ⟨0,0,[]⟩ (linesG [] t.data.toList)).ch then 0 else 1)):=hd (by unfold grepE;rw[if_neg (by rw[Htl.out];exact h4),if_neg (by rw[he];simp)])
   have Hsm:=hd (runG_sml (p:=p.data.toList) (o:=o) t.data.toList [] ⟨0,0,[]⟩ 0 ⟨Nat.le_refl _,Nat.le_refl _,Nat.le_refl _⟩ (by rw[Htl.out];omega) (by rw[Htl.out];simp;omega))
   have Hpg:Hid (PgN W0 w1 g p.data.toList w1.heap.size):=hd ⟨hpi,World.block_lt_of_cell? w1 _ hpi.c0,fun v b hv hb=>by
    obtain⟨v',h1,_,_,⟨css,ho,_⟩,_⟩:=hpi.code
    rw[hv]at h1
    cases h1
    exact(ho.lt b hb).2⟩
   have Hok:=hd he
   clear he hpi hg
   go_wp2_with fail
   have hS:=heap_alloc_new w1 (.cells #[.pointer (some ⟨g,0,none⟩),.bool o.only,.bool o.invert,.bool o.count,.bool o.number,.int .i64 0,.int .i64 0,.slice none 0 0] 34)
   have HBw:Hid (Below w1.heap.size w1 (w1.alloc (.cells #[.pointer (some ⟨g,0,none⟩),.bool o.only,.bool o.invert,.bool o.count,.bool o.number,.int .i64 0,.int .i64 0,.slice none 0 0] 34))):=hd ((Below.refl _ _).alloc (Nat.le_refl _) _)
   generalize w1.alloc (.cells #[.pointer (some ⟨g,0,none⟩),.bool o.only,.bool o.invert,.bool o.count,.bool o.number,.int .i64 0,.int .i64 0,.slice none 0 0] 34)=W1 at*
   have cc:∀i,W1.cell? ⟨w1.heap.size,i,none⟩=(#[.pointer (some ⟨g,0,none⟩),.bool o.only,.bool o.invert,.bool o.count,.bool o.number,.int .i64 0,.int .i64 0,.slice none 0 0]:Array Value)[i]?:=fun i=>cell_of_row _ _ _ _ _ _ hS
   have Hgs:Hid (Gs W1 w1.heap.size g o 0 0 []):=hd ⟨(cc 0).trans rfl,(cc 1).trans rfl,(cc 2).trans rfl,(cc 3).trans rfl,(cc 4).trans rfl,(cc 5).trans rfl,(cc 6).trans rfl,⟨.slice none 0 0,(cc 7).trans rfl,World.ownsRow_nil _ _ _ _⟩,fun i=>frozen_blk hS⟩
   have Htw:Hid (Tb W1):=hd ((Ht.out.below HB1.out Ht.out.lt).below HBw.out (Nat.lt_of_lt_of_le Ht.out.lt HB1.out.size))
   refine(glines_any Hgs.out Htw.out (Nat.lt_of_lt_of_le Ht.out.lt HB1.out.size) (Hpg.out.below HBw.out) Hok.out t (by omega)).mono ?_
   rintro e2 w2 ⟨rfl,hm2,hg2⟩
   have HB2:Hid (Below w.heap.size w w2):=hd ((HB1.out.trans (HBw.out.mono HB1.out.size)).trans (hg2.bel.mono HB1.out.size))
   have r2:w2.cell? ⟨w.heap.size,2,none⟩=some (.bool o.count):=(hg2.bel.cell (by exact lO)).trans ((HBw.out.cell (by exact lO)).trans q2)
   generalize runG p.data.toList o ⟨0,0,[]⟩ (linesG [] t.data.toList)=σ at*
   have Hm2:=hd hm2
   have r6:=hm2.c6
   have hchb:σ.ch<=4001:=by obtain⟨z1,z2,z3⟩:=Hsm.out;rw[Htl.out]at z1;omega
   have hchi:(σ.ch:Int)<=4001:=by omega
   have lw:w.heap.size<w2.heap.size:=World.block_lt_of_cell? _ _ r2
   clear hm2 hg2 Hgs cc hS Htw HBw q0 q1 q2 q3 Hsm
   by_cases hc0:0<σ.ch
   ·have hc0I:(0:Int)<(σ.ch:Int):=by omega
    cases hct:o.count with
    |true=>
     rw[hct]at r2
     obtain⟨A,hA⟩:∃A:ByteArray,A=⟨(Lib.itoa (σ.ch:Int)).toArray⟩:=⟨_,rfl⟩
     have Hit:Hid (Calls Tryz.prog 9 #[.int .i64 (σ.ch:Int)] w2 fun e w'=>e= .returned (.string A)/\∃k os,w'=Go.Sort.grow (w2.drewN k) os):=hd (by rw[hA];exact Tryz.strconv_Itoa (σ.ch:Int) (by omega) (by omega) w2 (Ht.out.below HB2.out Ht.out.lt))
     have HAl:Hid (A.size<=21):=hd (by have:=itoa_len σ.ch (by omega);rw[hA];simpa[ByteArray.size]using this)
     have HAd:Hid (A.data.toList=Lib.itoa (σ.ch:Int)):=hd (by rw[hA])
     have hAl:=HAl.out
     clear hA
     have HE2:Hid (grepE p.data.toList t.data.toList o=(A.data.toList++ [10],0)):=hd (by rw[HE.out,if_pos hct,if_pos hc0,HAd.out])
     clear hct HE
     go_wp2_with fail
     refine Hit.out.mono ?_
     rintro e3 w3 ⟨rfl,k,os,hw3⟩
     have HB3:Hid (Below w.heap.size w w3):=hd (by subst hw3;exact HB2.out.trans ((below_grow w2 k os).mono HB2.out.size))
     clear hw3
     go_wp2
     refine bodyPost_ret (v:= .tuple #[.string (A++⟨#[10]⟩),.int .i64 0]) (by simp[results,Tryz.results4,go_sem]) rfl ⟨HB3.out,A++⟨#[10]⟩,?_,?_⟩
     ·rw[HE2.out];rfl
     ·rw[HE2.out,app_l]
    |false=>
     rw[hct]at r2
     obtain⟨v7,r7,ho7⟩:=Hm2.out.c7
     have hcv:=conv_own rfl ho7
     obtain⟨va,vc,rfl⟩:=owns_shape ho7
     have HE2:Hid (grepE p.data.toList t.data.toList o=(σ.out,0)):=hd (by rw[HE.out,if_neg (by rw[hct];simp),if_pos hc0])
     clear hct HE ho7
     go_wp2
     refine bodyPost_ret (v:= .tuple #[.string ⟨σ.out.toArray⟩,.int .i64 0]) (by simp[results,Tryz.results4,go_sem]) rfl ⟨HB2.out,⟨σ.out.toArray⟩,?_,?_⟩
     ·rw[HE2.out];rfl
     ·rw[HE2.out]
   ·have hc0I:¬(0:Int)<(σ.ch:Int):=by omega
    cases hct:o.count with
    |true=>
     rw[hct]at r2
     obtain⟨A,hA⟩:∃A:ByteArray,A=⟨(Lib.itoa (σ.ch:Int)).toArray⟩:=⟨_,rfl⟩
     have Hit:Hid (Calls Tryz.prog 9 #[.int .i64 (σ.ch:Int)] w2 fun e w'=>e= .returned (.string A)/\∃k os,w'=Go.Sort.grow (w2.drewN k) os):=hd (by rw[hA];exact Tryz.strconv_Itoa (σ.ch:Int) (by omega) (by omega) w2 (Ht.out.below HB2.out Ht.out.lt))
     have HAl:Hid (A.size<=21):=hd (by have:=itoa_len σ.ch (by omega);rw[hA];simpa[ByteArray.size]using this)
     have HAd:Hid (A.data.toList=Lib.itoa (σ.ch:Int)):=hd (by rw[hA])
     have hAl:=HAl.out
     clear hA
     have HE2:Hid (grepE p.data.toList t.data.toList o=(A.data.toList++ [10],1)):=hd (by rw[HE.out,if_pos hct,if_neg hc0,HAd.out])
     clear hct HE
     go_wp2_with fail
     refine Hit.out.mono ?_
     rintro e3 w3 ⟨rfl,k,os,hw3⟩
     have HB3:Hid (Below w.heap.size w w3):=hd (by subst hw3;exact HB2.out.trans ((below_grow w2 k os).mono HB2.out.size))
     clear hw3
     go_wp2
     refine bodyPost_ret (v:= .tuple #[.string (A++⟨#[10]⟩),.int .i64 1]) (by simp[results,Tryz.results4,go_sem]) rfl ⟨HB3.out,A++⟨#[10]⟩,?_,?_⟩
     ·rw[HE2.out];rfl
     ·rw[HE2.out,app_l]
    |false=>
     rw[hct]at r2
     obtain⟨v7,r7,ho7⟩:=Hm2.out.c7
     have hcv:=conv_own rfl ho7
     obtain⟨va,vc,rfl⟩:=owns_shape ho7
     have HE2:Hid (grepE p.data.toList t.data.toList o=(σ.out,1)):=hd (by rw[HE.out,if_neg (by rw[hct];simp),if_neg hc0])
     clear hct HE ho7
     go_wp2
     refine bodyPost_ret (v:= .tuple #[.string ⟨σ.out.toArray⟩,.int .i64 1]) (by simp[results,Tryz.results4,go_sem]) rfl ⟨HB2.out,⟨σ.out.toArray⟩,?_,?_⟩
     ·rw[HE2.out];rfl
     ·rw[HE2.out]
  ·have hen:(((parseT p.data.toList).1:Int) !=0)=true:=by simp;omega
   have HE:Hid (grepE p.data.toList t.data.toList o=([],2)):=hd (by unfold grepE;rw[if_neg (by rw[Htl.out];exact h4),if_pos he])
   clear he
   generalize (parseT p.data.toList).1=er at*
   generalize (parseT p.data.toList).2.1=ep at*
   go_wp2
   refine bodyPost_ret (v:= .tuple #[.string ⟨#[]⟩,.int .i64 2]) (by simp[results,Tryz.results4,go_sem]) rfl ⟨HB1.out,⟨#[]⟩,?_,?_⟩
   ·rw[HE.out];rfl
   ·rw[HE.out]
end Go.Proofs.YtldiemjlpnachaaGreatDoor
