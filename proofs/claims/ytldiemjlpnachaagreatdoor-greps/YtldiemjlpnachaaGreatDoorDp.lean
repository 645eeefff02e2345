import Derived.Test.YtldiemjlpnachaaGreatDoorGg
import Derived.Test.YtldiemjlpnachaaGreatDoorFd
import Derived.Deep.CutRange
import Derived.Deep.CutBlock
set_option maxHeartbeats 6400000
set_option maxRecDepth 100000
namespace Go.Proofs.YtldiemjlpnachaaGreatDoor
open Go.RowKit
theorem linesG_app:∀(a cur b:List UInt8),(∀c∈a,c≠10)->linesG cur (a++b)=linesG (cur++a) b
 | [],cur,b,_=>by simp
 |x::a,cur,b,h=>by
  rw[List.cons_append,linesG,if_neg (h x (by simp)),linesG_app a (cur++ [x]) b (fun c hc=>h c (by simp[hc]))]
  simp
theorem linesG_cut{t:List UInt8}{n:Nat}(hno:∀c∈t.take n,c≠10)(hend:n=t.length\/t[n]?=some 10)(ht:t≠ []):linesG [] t=t.take n::linesG [] (t.drop (n+1)):=by
 have h:=linesG_app (t.take n) [] (t.drop n) hno
 rw[List.take_append_drop,List.nil_append]at h
 rw[h]
 rcases hend with rfl|he
 ·rw[List.drop_length,List.take_length,List.drop_eq_nil_of_le (by omega),linesG,if_neg ht,linesG,if_pos rfl]
 ·have hn:=(List.getElem?_eq_some_iff.1 he).1
  rw[List.drop_eq_getElem_cons hn,linesG,if_pos (List.getElem?_eq_some_iff.1 he).2]
def nc(o:Opt):Opt:= {o with count:=false}
theorem runG_nc(p:List UInt8)(o:Opt):∀(ls:List (List UInt8)) (σ τ:Sg),σ.ch=τ.ch->(runG p (nc o) σ ls).ch=(runG p o τ ls).ch
 | [],_,_,h=>h
 |s::ls,σ,τ,h=>by
  have e:lineCh p (nc o) s=lineCh p o s:=rfl
  show(runG p (nc o) (stepG p (nc o) σ s) ls).ch=(runG p o (stepG p o τ s) ls).ch
  apply runG_nc
  unfold stepG
  rw[e]
  split
  ·exact congrArg (· +1) h
  ·exact h
theorem info_strD:(Tryz.prog.info? 9).map (fun i=>(i.zero,i.size,i.bytes))=some (some (.string ⟨#[]⟩),1,16):=by kernel_rfl
theorem uStrsD:Tryz.prog.underlying 42=some (.slice 9):=by kernel_rfl
theorem add_strD (x y : ByteArray) (h : x.size + y.size ≤ 1000000000000) : Op.stringOp .add x y = pure (.string (x ++ y)) := by
  unfold Op.stringOp
  simp only []
  rw [if_neg (by have : IntKind.i64.max = 9223372036854775807 := by decide
                 omega)]
def strV(L:List (List UInt8)):List Value:=L.map fun s=> .string ⟨s.toArray⟩
theorem strV_snoc(L:List (List UInt8))(s:List UInt8):strV (L++ [s])=strV L++ [.string ⟨s.toArray⟩]:=by unfold strV;simp
theorem ext_eqD(s:ByteArray)(a b:Nat):s.extract a b=⟨((s.data.toList.drop a).take (b-a)).toArray⟩:=by
 apply ByteArray.ext
 apply Array.toList_inj.1
 have:=extract_list s a b
 rw[ByteArray.toList_eq]at this
 rw[this]
theorem ext_tail(T:ByteArray)(n:Nat):(T.extract n T.size).data.toList=T.data.toList.drop n:=by
 rw[ext_eqD]
 exact List.take_of_length_le (by rw[List.length_drop,len_data];exact Nat.le_refl _)
theorem ext_head(T:ByteArray)(n:Nat):(T.extract 0 n).data.toList=T.data.toList.take n:=by
 rw[ext_eqD]
 rfl
theorem fmtM_len(o:Opt)(num:Nat)(hn:num<=1000000):∀L:List (List UInt8),(∀s∈L,s.length<=4000)->(L.flatMap (fmtL o num)).length<=L.length*4023
 | [],_=>by simp
 |s::r,h=>by
  have h1:=fmtM_len o num hn r (fun x hx=>h x (by simp[hx]))
  have h2:=fmtL_len o num hn s
  have h3:=h s (by simp)
  rw[List.flatMap_cons,List.length_append,List.length_cons,Nat.add_mul]
  omega
theorem nc_eq{o:Opt}(h:o.count=false):nc o=o:=by unfold nc;rw[<-h]
theorem empty_no{T:ByteArray}(h:¬T.size=0):T.toList.isEmpty=false:=by
 rw[List.isEmpty_eq_false_iff,ByteArray.toList_eq]
 intro e
 apply h
 rw[<-len_data,e]
 rfl
theorem empty_yes{T:ByteArray}(h:T.size=0):T.toList.isEmpty=true:=by
 rw[List.isEmpty_iff,ByteArray.toList_eq]
 exact List.eq_nil_of_length_eq_zero (by rw[len_data];exact h)
theorem size_zero{T:ByteArray}(h:T.size=0):T=⟨#[]⟩:=by
 cases T with
 |mk d=>exact congrArg ByteArray.mk (Array.eq_empty_of_size_eq_zero h)
theorem strV_get{L:List (List UInt8)}{t:Nat}(h:t<L.length):(strV L)[t]?=some (.string ⟨L[t].toArray⟩):=by unfold strV;rw[List.getElem?_map,List.getElem?_eq_getElem h];rfl
theorem str_data(s:ByteArray):(⟨s.data.toList.toArray⟩:ByteArray)=s:=rfl
theorem strs_app{w2 wv w4:World}{L:List (List UInt8)}{sa:Option Addr}{sc gg cap n:Nat}{s:ByteArray}{ob:Obj}(hB:Below w2.heap.size w2 wv)(ho:wv.ownsRow w2.heap.size 9 1 (.slice sa n sc) n (strV L))(hown:w4.ownsRow w2.heap.size 9 1 (.slice (some ⟨gg,0,none⟩) (n+1) cap) (n+1) (strV L++ [.string s]))(hgrow:(wv.alloc ob).grownBy w4 (Value.slice sa n sc).ownBlock):
  Below w2.heap.size w2 w4/\w4.ownsRow w2.heap.size 9 1 (.slice (some ⟨gg,0,none⟩) (n+1) cap) (n+1) (strV (L++ [s.data.toList])):=by
 have hsz:=hB.size
 refine⟨⟨hgrow.os.trans hB.os,hgrow.tape.trans hB.tape,hgrow.output.trans hB.output,by have:=hgrow.size;simp at this;omega,fun k hk=>(hgrow.block k (by simp;omega) (fun e=>by have:=(ho.lt k e.symm).1;omega)).trans ((Below.heap_alloc _ _ _ (by omega)).trans (hB.block k hk))⟩,?_⟩
 rw[strV_snoc,str_data]
 exact hown
theorem cut_len(s:List UInt8)(z:Nat×Nat):(cut s z).length<=s.length:=by unfold cut;rw[List.length_take,List.length_drop];omega
theorem lineOut_nc0(p:List UInt8){o:Opt}(num:Nat)(s:List UInt8)(h:o.only=false):lineOut p (nc o) num s=fmtL o num s:=by
 show(if false=true then _ else if o.only=true then _ else _)=_
 rw[if_neg (by simp),if_neg (by rw[h];simp)]
 rfl
theorem lineOut_nc1(p:List UInt8){o:Opt}(num:Nat)(s:List UInt8)(h:o.only=true)(hi:o.invert=true):lineOut p (nc o) num s= []:=by
 show(if false=true then _ else if o.only=true then(if o.invert=true then _ else _)else _)=_
 rw[if_neg (by simp),if_pos h,if_pos hi]
theorem lineOut_nc2(p:List UInt8){o:Opt}(num:Nat)(s:List UInt8)(h:o.only=true)(hi:o.invert=false):lineOut p (nc o) num s=((allE p s (s.length+1) 0).map (cut s)).flatMap (fmtL o num):=by
 show(if false=true then _ else if o.only=true then(if o.invert=true then _ else _)else _)=_
 rw[if_neg (by simp),if_pos h,if_neg (by rw[hi];simp),List.flatMap_map]
 rfl
theorem dgrep_any(p t:ByteArray)(o:Opt)(w:World)(hc:ClsW w)(ht:Tb w)(hp:p.size<=maxLen)(hts:t.size<=maxLen):
  Calls Tryz.prog 6 #[.string p,.string t,optV o] w fun e w'=>GrepP p.data.toList t.data.toList o w w' e:=by
 have Htl:=hd (len_data t)
 have Ht:=hd ht
 unfold maxLen at hts
 have HB0:Hid (Below w.heap.size w (w.alloc (.cells #[.bool o.only,.bool o.invert,.bool o.count,.bool o.number] 25))):=hd ((Below.refl _ _).alloc (Nat.le_refl _) _)
 have Hc:=hd (read_all p (w.alloc (.cells #[.bool o.only,.bool o.invert,.bool o.count,.bool o.number] 25)) (hc.below HB0.out) hp)
 have hob:(w.alloc (.cells #[.bool o.only,.bool o.invert,.bool o.count,.bool o.number] 25)).heap[w.heap.size]?=some (.cells #[.bool o.only,.bool o.invert,.bool o.count,.bool o.number] 25 (0,0)):=heap_alloc_new _ _
 have hz0:(w.alloc (.cells #[.bool o.only,.bool o.invert,.bool o.count,.bool o.number] 25)).heap.size=w.heap.size+1:=by simp
 have Hob:=hd hob
 have Hz0:=hd hz0
 clear hob hz0 hc ht
 unfold optV
 go_enter Tryz.func6,Tryz.ntmps6
 go_wp2_with fail
 refine Hc.out.mono ?_
 generalize w.alloc (.cells #[.bool o.only,.bool o.invert,.bool o.count,.bool o.number] 25)=W0 at*
 rintro e1 w1 ⟨hb1,hh⟩
 have HB1:=hd (HB0.out.trans (hb1.mono HB0.out.size))
 have hopt:w1.heap[w.heap.size]?=some (.cells #[.bool o.only,.bool o.invert,.bool o.count,.bool o.number] 25 (0,0)):=(hb1.block _ (by rw[Hz0.out];omega)).trans Hob.out
 have Hq:Hid (∀wz,Below w1.heap.size w1 wz->wz.cell? ⟨w.heap.size,0,none⟩=some (.bool o.only)/\wz.cell? ⟨w.heap.size,1,none⟩=some (.bool o.invert)/\wz.cell? ⟨w.heap.size,2,none⟩=some (.bool o.count)/\wz.cell? ⟨w.heap.size,3,none⟩=some (.bool o.number)):=hd (fun wz hz=>by
  have e:=(hz.block _ (Array.getElem?_eq_some_iff.1 hopt).1).trans hopt
  rw[cell_of_row _ _ _ _ _ _ e,cell_of_row _ _ _ _ _ _ e,cell_of_row _ _ _ _ _ _ e,cell_of_row _ _ _ _ _ _ e]
  exact⟨rfl,rfl,rfl,rfl⟩)
 clear hb1 hopt Hc HB0 Hob Hz0
 rcases hh with⟨he,g,hg,rfl,_,hrp⟩|⟨he,rfl⟩
 ·by_cases h4:4000<t.size
  ·have h4I:(4000:Int)<(t.size:Int):=by omega
   have HE:Hid (grepE p.data.toList t.data.toList o=([],2)):=hd (by unfold grepE;rw[if_pos (by rw[Htl.out];exact h4)])
   go_wp2
   refine bodyPost_ret (v:= .tuple #[.string ⟨#[]⟩,.int .i64 2]) (by simp[results,Tryz.results6,go_sem]) rfl ⟨HB1.out,⟨#[]⟩,?_,?_⟩
   ·rw[HE.out];rfl
   ·rw[HE.out]
  ·have h4I:¬(4000:Int)<(t.size:Int):=by omega
   have Hrp:=hd hrp
   have Hok:=hd he
   clear hrp hg
   have HE:Hid (grepE p.data.toList t.data.toList o=(if o.count=true then Lib.itoa ((runG p.data.toList o ⟨0,0,[]⟩ (linesG [] t.data.toList)).ch:Int)++ [10]else(runG p.data.toList o ⟨0,0,[]⟩ (linesG [] t.data.toList)).out,if 0<(runG p.data.toList o ⟨0,0,[]⟩ (linesG [] t.data.toList)).ch then 0 else 1)):=hd (by
    unfold grepE
    rw[if_neg (by rw[Htl.out];exact h4),if_neg (by rw[Hok.out];simp)])
   go_wp2_with fail
   go_loopg [1,11,12,13] (t.size+1) (fun f tv ov cv kv wx=>∃(T O:ByteArray) (σ:Sg) (i:Nat),tv= .string T/\ov= .string O/\cv= .int .i64 σ.ch/\kv= .int .i64 (σ.num+1:Nat)/\T.size<f/\i+T.size<=4000/\Hid (Sml σ i)/\Hid (O.data.toList=σ.out)/\Hid (runG p.data.toList (nc o) σ (linesG [] T.data.toList)=runG p.data.toList (nc o) ⟨0,0,[]⟩ (linesG [] t.data.toList))/\Hid (Below w1.heap.size w1 wx))
   case atStart=>exact⟨t,⟨#[]⟩,⟨0,0,[]⟩,0,rfl,rfl,rfl,rfl,by omega,by omega,hd ⟨Nat.le_refl _,Nat.le_refl _,Nat.le_refl _⟩,hd rfl,hd rfl,hd (Below.refl _ _)⟩
   case round=>
    obtain⟨T,O,σ,i,rfl,rfl,rfl,rfl,hf,hi,HS,HO,HR,HB⟩:=hrel
    obtain⟨gf,rfl⟩:∃gf,gk=gf+1:=⟨gk-1,by omega⟩
    by_cases hT0:T.size=0
    ·obtain rfl:=size_zero hT0
     have HZ:Hid (runG p.data.toList (nc o) ⟨0,0,[]⟩ (linesG [] t.data.toList)=σ):=hd HR.out.symm
     have hcc:(runG p.data.toList o ⟨0,0,[]⟩ (linesG [] t.data.toList)).ch=σ.ch:=by rw[<-HZ.out];exact(runG_nc _ _ _ _ _ rfl).symm
     have hz:=HS.out
     have hchI:(σ.ch:Int)<=4000:=by obtain⟨z1,z2,z3⟩:=hz;omega
     obtain⟨q0,q1,q2,q3⟩:=Hq.out wr HB.out
     have lo:=World.block_lt_of_cell? _ _ q0
     have HBw:=hd (HB1.out.trans (HB.out.mono HB1.out.size))
     have Hcc:=hd hcc
     clear q0 q1 q3 hz hcc
     obtain⟨st,hst⟩:∃st:Nat,st=if 0<σ.ch then 0 else 1:=⟨_,rfl⟩
     rcases Bool.eq_false_or_eq_true o.count with hct|hct
     ·obtain⟨A,hA⟩:∃A:ByteArray,A=⟨(Lib.itoa (σ.ch:Int)).toArray⟩:=⟨_,rfl⟩
      have Hit:Hid (Calls Tryz.prog 9 #[.int .i64 (σ.ch:Int)] wr fun e w'=>e= .returned (.string A)/\∃k os,w'=Go.Sort.grow (wr.drewN k) os):=hd (by rw[hA];exact Tryz.strconv_Itoa (σ.ch:Int) (by omega) (by omega) wr (Ht.out.below HBw.out Ht.out.lt))
      have hAz:A.size<=21:=by have:=itoa_len σ.ch (by omega);rw[hA];simpa[ByteArray.size]using this
      have HAd:Hid (A.data.toList=Lib.itoa (σ.ch:Int)):=hd (by rw[hA])
      have HE2:Hid (grepE p.data.toList t.data.toList o=(A.data.toList++ [10],st)):=hd (by rw[HE.out,if_pos hct,Hcc.out,HAd.out,hst])
      have HF:Hid (∀w',Below wr.heap.size wr w'->GrepP p.data.toList t.data.toList o w w' (.returned (.tuple #[.string (A++⟨#[10]⟩),.int .i64 st]))):=hd (fun w' hb=>⟨HBw.out.trans (hb.mono HBw.out.size),A++⟨#[10]⟩,by rw[HE2.out],by rw[HE2.out,app_l]⟩)
      rw[hct]at q2
      clear hA hct
      go_wp2_with fail
      refine Hit.out.mono ?_
      rintro e4 w4 ⟨rfl,k,os,hw4⟩
      have HF1:=hd (HF.out w4 (by subst hw4;exact below_grow wr k os))
      clear hw4 Hit HF q2 lo
      by_cases hc0:0<σ.ch
      ·have hc0I:(0:Int)<(σ.ch:Int):=by omega
       rw[if_pos hc0]at hst
       subst hst
       go_wp2
       exact bodyPost_ret (by simp[results,Tryz.results6,go_sem]) rfl HF1.out
      ·have hc0I:¬(0:Int)<(σ.ch:Int):=by omega
       rw[if_neg hc0]at hst
       subst hst
       go_wp2
       exact bodyPost_ret (by simp[results,Tryz.results6,go_sem]) rfl HF1.out
     ·have HE2:Hid (grepE p.data.toList t.data.toList o=(σ.out,st)):=hd (by
       have h:=HZ.out
       rw[nc_eq hct]at h
       rw[HE.out,if_neg (by rw[hct];simp),h,hst])
      have HF1:Hid (GrepP p.data.toList t.data.toList o w wr (.returned (.tuple #[.string O,.int .i64 st]))):=hd ⟨HBw.out,O,by rw[HE2.out],by rw[HE2.out];exact HO.out⟩
      rw[hct]at q2
      clear hct
      by_cases hc0:0<σ.ch
      ·have hc0I:(0:Int)<(σ.ch:Int):=by omega
       rw[if_pos hc0]at hst
       subst hst
       go_wp2
       exact bodyPost_ret (by simp[results,Tryz.results6,go_sem]) rfl HF1.out
      ·have hc0I:¬(0:Int)<(σ.ch:Int):=by omega
       rw[if_neg hc0]at hst
       subst hst
       go_wp2
       exact bodyPost_ret (by simp[results,Tryz.results6,go_sem]) rfl HF1.out
    ·have hTe:T.toList.isEmpty=false:=empty_no hT0
     have hTI:(T.size:Int)<=4000:=by omega
     have HTl:=hd (len_data T)
     have hz:=HS.out
     have hnum:σ.num<=4000:=by obtain⟨z1,z2,z3⟩:=hz;omega
     have hch:σ.ch<=4000:=by obtain⟨z1,z2,z3⟩:=hz;omega
     have hOl:σ.out.length<=68000000000:=by obtain⟨z1,z2,z3⟩:=hz;omega
     clear hz
     go_upto_block 2 with fail
     go_cut [14]from 37 to 121 (fun nv wx=>∃n:Nat,nv= .int .i64 n/\n<=T.size/\Hid (Below w1.heap.size w1 wx)/\Hid (∀c∈T.data.toList.take n,c≠10)/\Hid (n=T.data.toList.length\/T.data.toList[n]?=some 10))
     case first=>
      go_wp2_with fail
      go_loopg [14] (T.size+1) (fun f nv wx=>∃n:Nat,nv= .int .i64 n/\n<=T.size/\T.size<n+f/\Hid (Below w1.heap.size w1 wx)/\Hid (∀c∈T.data.toList.take n,c≠10))
      case atStart=>exact⟨0,rfl,Nat.zero_le _,by omega,HB,hd (by simp)⟩
      case round=>
       obtain⟨n,rfl,hn,hnf,HB2,HN⟩:=hrel
       have hn0:(0:Int)<=(n:Int):=by omega
       by_cases hlt:n<T.size
       ·have hlt1:(n:Int)<(T.size:Int):=by omega
        have hil:n<T.data.toList.length:=by rw[HTl.out];exact hlt
        have Hch:Hid ((T[n]'hlt).toNat=(T.data.toList[n]).toNat):=hd (by
         rw[ch_get T n hlt]
         unfold ch
         rw[List.getElem?_eq_getElem hil]
         rfl)
        by_cases hc:T.data.toList[n]=10
        ·have hcb:(((T[n]'hlt).toNat:Int)==10)=true:=by rw[Hch.out,hc];rfl
         have HX:Hid (n=T.data.toList.length\/T.data.toList[n]?=some 10):=hd (.inr (by rw[List.getElem?_eq_getElem hil,hc]))
         clear hc Hch
         go_wp2
         go_meet
         case rel=>exact⟨n,rfl,hn,HB2,HN,HX⟩
        ·have hcb:(((T[n]'hlt).toNat:Int)==10)=false:=by
          rw[beq_eq_false_iff_ne,Hch.out]
          intro h
          apply hc
          apply UInt8.toNat_inj.1
          show _=10
          omega
         have HN1:Hid (∀c∈T.data.toList.take (n+1),c≠10):=hd (fun c hm=>by
          rw[List.take_succ_eq_append_getElem hil]at hm
          rcases List.mem_append.1 hm with hm|hm
          ·exact HN.out c hm
          ·rw[List.mem_singleton.1 hm];exact hc)
         clear hc Hch
         go_wp2
         go_roundg (gk-1)
         case measure=>omega
         case rel=>exact⟨n+1,by go_num,by omega,by omega,HB2,HN1⟩
       ·have hlt1:¬(n:Int)<(T.size:Int):=by omega
        have HX:Hid (n=T.data.toList.length\/T.data.toList[n]?=some 10):=hd (.inl (by rw[HTl.out];omega))
        go_wp2
        go_meet
        case rel=>exact⟨n,rfl,hn,HB2,HN,HX⟩
     case rest=>
      clear HB
      obtain⟨n,rfl,hn,HB,HN,HX⟩:=hcut
      have hn0:(0:Int)<=(n:Int):=by omega
      have hnI:(n:Int)<=(T.size:Int):=by omega
      have hTI0:(0:Int)<=(T.size:Int):=by omega
      go_upto_if 60 with fail
      go_cut [1]from 37 to 121 (fun tv wx=>∃R:ByteArray,tv= .string R/\Hid (Below w1.heap.size w1 wx)/\Hid (R.data.toList=T.data.toList.drop (n+1)))
      case first=>
       have HE1:Hid ((T.extract n T.size).data.toList=T.data.toList.drop n):=hd (ext_tail T n)
       have HE2:Hid ((T.extract n T.size).size=T.size-n):=hd (by rw[<-len_data,HE1.out,List.length_drop,HTl.out])
       generalize T.extract n T.size=E at*
       by_cases hnT:n=T.size
       ·have hE:E.toList.isEmpty=true:=empty_yes (by rw[HE2.out];omega)
        have HX1:Hid (E.data.toList=T.data.toList.drop (n+1)):=hd (by rw[HE1.out,List.drop_eq_nil_of_le (by rw[HTl.out];omega),List.drop_eq_nil_of_le (by rw[HTl.out];omega)])
        clear hnT HE1 HE2
        rw[show(!E.toList.isEmpty)=false by rw[hE];rfl]
        go_wp2
        go_meet
        case rel=>exact⟨E,rfl,HB,HX1⟩
       ·have hE:E.toList.isEmpty=false:=empty_no (by rw[HE2.out];omega)
        have hz1:(1:Int)<=(E.size:Int):=by rw[HE2.out];omega
        have HX1:Hid ((E.extract 1 E.size).data.toList=T.data.toList.drop (n+1)):=hd (by rw[ext_tail,HE1.out,List.drop_drop])
        clear hnT HE1 HE2
        rw[show(!E.toList.isEmpty)=true by rw[hE];rfl]
        go_wp2
        go_meet
        case rel=>exact⟨E.extract 1 E.size,rfl,HB,HX1⟩
      case rest=>
       clear HB
       obtain⟨R,rfl,HB,HRd⟩:=hcut
       have HLn:Hid ((T.extract 0 n).data.toList=T.data.toList.take n):=hd (ext_head T n)
       have hls:(T.extract 0 n).size<=4000:=by rw[<-len_data,HLn.out,List.length_take,HTl.out];omega
       have HRs:Hid (R.size=T.size-(n+1)):=hd (by rw[<-len_data,HRd.out,List.length_drop,HTl.out])
       have HR1:Hid (runG p.data.toList (nc o) (stepG p.data.toList (nc o) σ (T.extract 0 n).data.toList) (linesG [] R.data.toList)=runG p.data.toList (nc o) ⟨0,0,[]⟩ (linesG [] t.data.toList)):=hd (by
        have h:=HR.out
        rw[linesG_cut HN.out HX.out (fun e=>hT0 (by rw[<-len_data,e];rfl)),<-HLn.out,<-HRd.out]at h
        exact h)
       clear HR HN HX HRd HLn HTl hn hn0 hnI hTI hTI0 hTe
       generalize T.extract 0 n=ln at*
       have HS1:=hd (HS.out.step (p:=p.data.toList) (o:=nc o) (s:=ln.data.toList) (by omega) (by rw[len_data];exact hls))
       have hRs:i+1+R.size<=4000:=by rw[HRs.out];omega
       have hRf:R.size<gf:=by rw[HRs.out];omega
       have Hfd:Hid (Calls Tryz.prog 11 #[.pointer (some ⟨g,0,none⟩),.string ln,.int .i64 0] wc fun e w'=>e= .returned (resE (findE p.data.toList ln.data.toList 0))/\Below wc.heap.size wc w'):=hd (by
        have h:=dfind_any wc g p.data.toList ln ((0:Nat):Int) Hok.out (Hrp.out.below HB.out) (by omega) (by omega)
        rw[findI_nat _ _ (Nat.zero_le _)]at h
        exact h)
       clear HS HRs hf hi hT0
       go_wp2_with fail
       refine Hfd.out.mono ?_
       rintro e2 w2 ⟨rfl,hb2⟩
       have HB2:=hd (HB.out.trans (hb2.mono HB.out.size))
       obtain⟨q0,q1,q2,q3⟩:=Hq.out w2 HB2.out
       have lo:=World.block_lt_of_cell? _ _ q0
       have hres:∃x1 x2:Nat,resE (findE p.data.toList ln.data.toList 0)= .tuple #[.int .i64 x1,.int .i64 x2,.bool (findE p.data.toList ln.data.toList 0).isSome]:=by
        cases findE p.data.toList ln.data.toList 0 with
        |none=>exact⟨0,0,rfl⟩
        |some x=>exact⟨x.1,x.2,rfl⟩
       obtain⟨x1,x2,hres⟩:=hres
       rw[hres]
       have Hst:Hid (stepG p.data.toList (nc o) σ ln.data.toList=if((findE p.data.toList ln.data.toList 0).isSome !=o.invert)=true then⟨σ.num+1,σ.ch+1,σ.out++lineOut p.data.toList (nc o) (σ.num+1) ln.data.toList⟩else⟨σ.num+1,σ.ch,σ.out⟩):=hd rfl
       clear hres Hfd hb2 HB
       generalize (findE p.data.toList ln.data.toList 0).isSome=fd at*
       cases hcb:fd==o.invert with
       |true=>
        have HS2:Hid (stepG p.data.toList (nc o) σ ln.data.toList=⟨σ.num+1,σ.ch,σ.out⟩):=hd (by rw[Hst.out,if_neg (by unfold bne;rw[hcb];simp)])
        have HR2:=HR1
        rw[HS2.out]at HS1
        rw[HS2.out]at HR2
        clear Hst HR1
        go_wp2
        go_roundg gf
        case measure=>omega
        case rel=>exact⟨R,O,⟨σ.num+1,σ.ch,σ.out⟩,i+1,rfl,rfl,rfl,by go_num,hRf,hRs,HS1,HO,HR2,HB2⟩
       |false=>
        have HS2:Hid (stepG p.data.toList (nc o) σ ln.data.toList=⟨σ.num+1,σ.ch+1,σ.out++lineOut p.data.toList (nc o) (σ.num+1) ln.data.toList⟩):=hd (by rw[Hst.out,if_pos (by unfold bne;rw[hcb];simp)])
        have HR2:=HR1
        rw[HS2.out]at HS1
        rw[HS2.out]at HR2
        clear Hst HR1
        go_upto_if 78 with fail
        go_cut [19,21]from 37 to 121 (fun sv _ wx=>∃(L:List (List UInt8)) (sa:Option Addr) (sc B:Nat),sv= .slice sa L.length sc/\L.length<=5000/\Hid (∀s∈L,s.length<=4000)/\Hid (Below w1.heap.size w1 wx)/\Hid (wx.ownsRow B 9 1 (.slice sa L.length sc) L.length (strV L))/\Hid (L.flatMap (fmtL o (σ.num+1))=lineOut p.data.toList (nc o) (σ.num+1) ln.data.toList))
        case first=>
         obtain⟨i0,hi0',hz0,hz1,hz2⟩:=info_parts info_strD
         rcases Bool.eq_false_or_eq_true o.only with hon|hon
         rotate_left
         ·skip
          have HLo:=hd (lineOut_nc0 p.data.toList (σ.num+1) ln.data.toList hon)
          rw[show(!o.only)=true by rw[hon];rfl]
          clear hon hcb
          go_wp2_with
           (refine wpList_append_lies _ (by rfl) _ _ _ (by rfl) w2.heap.size 9 i0 _ 1 16 uStrsD hi0' hz0 hz1 hz2 rfl (by omega) (.slice none 0 0) 0 [] (by rfl) (World.ownsRow_nil _ _ _ _)
             ⟨w2.heap.size,0,none⟩ 1 1 [.string ln] (by rfl) (by rfl) (World.news_of_block (cs:= #[.string ln]) (t:=9) (fr:=(0,0)) (heap_alloc_new w2 _)) (by simp[Value.oneCell'])
             (by omega) (by unfold maxLen;omega) (by omega) (by simp) (w2.heap.size+1) (by simp) ?_
            intro gg cap w4 hown4 hgrow hat hlt2
            have HQ:=hd (strs_app (L:= []) (Below.refl _ _) (World.ownsRow_nil _ _ _ _) hown4 hgrow)
            clear hown4 hgrow hat hlt2)
          go_meet
          case rel=>exact⟨[ln.data.toList],some ⟨gg,0,none⟩,cap,w2.heap.size,rfl,by simp,hd (fun s hs=>by rw[List.mem_singleton.1 hs,len_data];exact hls),hd (HB2.out.trans (HQ.out.1.mono HB2.out.size)),hd HQ.out.2,hd (by rw[HLo.out];simp)⟩
         ·rw[show(!o.only)=false by rw[hon];rfl]
          rcases Bool.eq_false_or_eq_true o.invert with hiv|hiv
          ·skip
           have HLo:=hd (lineOut_nc1 p.data.toList (σ.num+1) ln.data.toList hon hiv)
           rw[hiv]at q1
           clear hon hcb hiv
           go_wp2
           go_meet
           case rel=>exact⟨[],none,0,0,rfl,by simp,hd (fun s hs=>by cases hs),HB2,hd (World.ownsRow_nil _ _ _ _),hd (by rw[HLo.out];rfl)⟩
          ·skip
           have HLo:=hd (lineOut_nc2 p.data.toList (σ.num+1) ln.data.toList hon hiv)
           rw[hiv]at q1
           have Hall:=hd (dall_any w2 g p.data.toList ln Hok.out (Hrp.out.below HB2.out) (by omega))
           clear hon hcb hiv
           go_wp2_with fail
           refine Hall.out.mono ?_
           rintro e3 w3 ⟨v,rfl,hb3,ho3⟩
           obtain⟨ua,uc,rfl⟩:=owns_shape ho3
           have HB3:=hd (HB2.out.trans (hb3.mono HB2.out.size))
           have Hll:=hd (len_data ln)
           have Hin:=hd (fun z=>allE_in (p:=p.data.toList) (s:=ln.data.toList) Hok.out (ln.size+1) 0 z)
           have Hlen:Hid ((allE p.data.toList ln.data.toList (ln.size+1) 0).length<=ln.size+1):=hd (allE_len p.data.toList ln.data.toList (ln.size+1) 0)
           rw[Hll.out]at HLo
           have HO3:=hd ho3
           clear ho3 hb3 Hall q0 q1 q2 q3 lo
           generalize allE p.data.toList ln.data.toList (ln.size+1) 0=M at*
           have hLn:=Hlen.out
           have hLi:(M.length:Int)<=4001:=by omega
           go_wp2_with fail
           go_loopg [19,90] (M.length+1) (fun f sv iv wx=>∃(t:Nat) (sa:Option Addr) (sc:Nat),iv= .int .i64 t/\sv= .slice sa t sc/\t<=M.length/\M.length<t+f/\Hid (Below w3.heap.size w3 wx)/\Hid (wx.ownsRow w3.heap.size 9 1 (.slice sa t sc) t (strV ((M.take t).map (cut ln.data.toList)))))
           case atStart=>exact⟨0,none,0,rfl,rfl,Nat.zero_le _,by omega,hd (Below.refl _ _),hd (World.ownsRow_nil _ _ _ _)⟩
           case round=>
            obtain⟨t,sa,sc,rfl,rfl,htl,htf,HBt,HOt⟩:=hrel
            have ht0:(0:Int)<=(t:Int):=by omega
            by_cases hlt:t<M.length
            ·have hlt1:(t:Int)<(M.length:Int):=by omega
             obtain⟨b,cp,he3,hbb,hbl⟩:=HO3.out.form (by omega)
             cases he3
             obtain⟨z1,z2⟩:=spc_get M t M[t] (List.getElem?_eq_getElem hlt)
             have d1:wr.cell? ⟨b,t*2,none⟩=some (.int .i64 M[t].1):=(HBt.out.cell (by exact hbl)).trans (owns_cell HO3.out _ _ z1)
             have d2:wr.cell? ⟨b,t*2+1,none⟩=some (.int .i64 M[t].2):=(HBt.out.cell (by exact hbl)).trans (owns_cell HO3.out _ _ z2)
             obtain⟨_,g2,g3⟩:=Hin.out M[t] (List.getElem_mem hlt)
             rw[Hll.out]at g3
             have HT:Hid ((M.take (t+1)).map (cut ln.data.toList)=(M.take t).map (cut ln.data.toList)++ [cut ln.data.toList M[t]]):=hd (by rw[List.take_succ_eq_append_getElem hlt,List.map_append];rfl)
             generalize M[t]=z at*
             obtain⟨x,y⟩:=z
             simp only at d1 d2 g2 g3
             have hx0:(0:Int)<=(x:Int):=by omega
             have hxy:(x:Int)<=(y:Int):=by omega
             have hys:(y:Int)<=(ln.size:Int):=by omega
             have lb:=World.block_lt_of_cell? _ _ d1
             clear z1 z2
             go_upto_region 26 with fail
             have hS:=heap_alloc_new wr (.cells #[.int .i64 x,.int .i64 y] 46)
             have HBs:Hid (Below w3.heap.size w3 (wr.alloc (.cells #[.int .i64 x,.int .i64 y] 46))):=hd (HBt.out.trans ((alloc_below _ _).mono HBt.out.size))
             have HOs:=hd (HOt.out.alloc (.cells #[.int .i64 x,.int .i64 y] 46))
             have s1:(wr.alloc (.cells #[.int .i64 x,.int .i64 y] 46)).cell? ⟨wr.heap.size,0,none⟩=some (.int .i64 x):=by rw[cell_of_row _ _ _ _ _ _ hS];rfl
             have s2:(wr.alloc (.cells #[.int .i64 x,.int .i64 y] 46)).cell? ⟨wr.heap.size,1,none⟩=some (.int .i64 y):=by rw[cell_of_row _ _ _ _ _ _ hS];rfl
             have ls:=World.block_lt_of_cell? _ _ s1
             have hsw:=HBs.out.size
             clear hS d1 d2 lb HBt HOt
             generalize wr.alloc (.cells #[.int .i64 x,.int .i64 y] 46)=wS at*
             generalize wr.heap.size=bS at*
             have HXs:Hid ((ln.extract x y).data.toList=cut ln.data.toList (x,y)):=hd (by rw[ext_eqD];rfl)
             generalize hln:ln.extract x y=part at*
             go_wp2_with
              (first
               |rw[hln]
               |(refine wpList_append_lies _ (by rfl) _ _ _ (by rfl) w3.heap.size 9 i0 _ 1 16 uStrsD hi0' hz0 hz1 hz2 rfl (by omega) (.slice sa t sc) t (strV ((M.take t).map (cut ln.data.toList))) (by rfl) (HOs.out.alloc _)
                  ⟨wS.heap.size,0,none⟩ 1 1 [.string part] (by rfl) (by rfl) (World.news_of_block (cs:= #[.string part]) (t:=9) (fr:=(0,0)) (heap_alloc_new wS _)) (by simp[Value.oneCell'])
                  (by omega) (by unfold maxLen;omega) (by omega) (by simp;omega) (wS.heap.size+1) (by simp) ?_
                 intro gg cap w4 hown4 hgrow hat hlt2
                 have HQ:=hd (strs_app HBs.out HOs.out hown4 hgrow)
                 rw[HXs.out,<-HT.out]at HQ
                 clear hown4 hgrow hat hlt2))
             go_roundg (gk-1)
             case measure=>omega
             case rel=>exact⟨t+1,some ⟨gg,0,none⟩,cap,by go_num,rfl,by omega,by omega,hd HQ.out.1,hd HQ.out.2⟩
            ·obtain rfl:t=M.length:=by omega
             have HF:Hid (wr.ownsRow w3.heap.size 9 1 (.slice sa (M.map (cut ln.data.toList)).length sc) (M.map (cut ln.data.toList)).length (strV (M.map (cut ln.data.toList)))):=hd (by have h:=HOt.out;rw[List.take_length]at h;rw[List.length_map];exact h)
             have HBz:=hd (HB3.out.trans (HBt.out.mono HB3.out.size))
             go_wp2
             go_meet
             case rel=>exact⟨M.map (cut ln.data.toList),sa,sc,w3.heap.size,by rw[List.length_map],by rw[List.length_map];omega,hd (fun s hs=>by obtain⟨z,_,rfl⟩:=List.mem_map.1 hs;have:=cut_len ln.data.toList z;rw[Hll.out]at this;omega),HBz,HF,hd HLo.out.symm⟩
        case rest=>
         clear q0 q1 q2 q3 lo hcb
         obtain⟨L,sa,sc,B,rfl,hL5,HLs,HBc,HOc,HLo⟩:=hcut
         have hLi:(L.length:Int)<=5000:=by omega
         go_wp2_with fail
         go_loopg [11,106] (L.length+1) (fun f ov iv wx=>∃(t:Nat) (O2:ByteArray),iv= .int .i64 t/\ov= .string O2/\t<=L.length/\L.length<t+f/\Hid (Below wc.heap.size wc wx)/\Hid (O2.data.toList=σ.out++(L.take t).flatMap (fmtL o (σ.num+1))))
         case atStart=>exact⟨0,O,rfl,rfl,Nat.zero_le _,by omega,hd (Below.refl _ _),hd (by rw[HO.out];simp)⟩
         case round=>
          obtain⟨t,O2,rfl,rfl,htl,htf,HBt,HO2⟩:=hrel
          have HBr:=hd (HBc.out.trans (HBt.out.mono HBc.out.size))
          have ht0:(0:Int)<=(t:Int):=by omega
          by_cases hlt:t<L.length
          ·have hlt1:(t:Int)<(L.length:Int):=by omega
           obtain⟨b,cp,he3,hbb,hbl⟩:=HOc.out.form (by omega)
           cases he3
           have d1:wr.cell? ⟨b,t,none⟩=some (.string ⟨L[t].toArray⟩):=(HBt.out.cell (by exact hbl)).trans (owns_cell HOc.out _ _ (strV_get hlt))
           have HT:Hid ((L.take (t+1)).flatMap (fmtL o (σ.num+1))=(L.take t).flatMap (fmtL o (σ.num+1))++fmtL o (σ.num+1) L[t]):=hd (by rw[List.take_succ_eq_append_getElem hlt,List.flatMap_append];simp)
           have hps:L[t].length<=4000:=HLs.out _ (List.getElem_mem hlt)
           have hO2:O2.size<=70000000000:=by
            rw[<-len_data,HO2.out,List.length_append]
            have h1:=fmtM_len o (σ.num+1) (by omega) (L.take t) (fun s hs=>HLs.out s (List.mem_of_mem_take hs))
            have h2:(L.take t).length*4023<=5000*4023:=Nat.mul_le_mul_right _ (by rw[List.length_take];omega)
            omega
           generalize L[t]=pl at*
           obtain⟨part,hpart⟩:∃part:ByteArray,part=⟨pl.toArray⟩:=⟨_,rfl⟩
           rw[<-hpart]at d1
           have HPd:Hid (part.data.toList=pl):=hd (by rw[hpart])
           have hpz:part.size<=4000:=by rw[<-len_data,HPd.out];exact hps
           clear hpart hps
           have lb:=World.block_lt_of_cell? _ _ d1
           obtain⟨q0,q1,q2,q3⟩:=Hq.out wr HBr.out
           have lo:=World.block_lt_of_cell? _ _ q0
           clear q0 q1 q2
           have hO2I:(O2.size:Int)<=70000000000:=by omega
           have hpI:(part.size:Int)<=4000:=by omega
           have a3:=add_strD part ⟨#[10]⟩ (by show part.size+1<=_;omega)
           rcases Bool.eq_false_or_eq_true o.number with hnb|hnb
           ·obtain⟨A,hA⟩:∃A:ByteArray,A=⟨(Lib.itoa (((σ.num+1:Nat)):Int)).toArray⟩:=⟨_,rfl⟩
            have Hit:Hid (Calls Tryz.prog 9 #[.int .i64 ((σ.num:Int)+1)] wr fun e w'=>e= .returned (.string A)/\∃k os,w'=Go.Sort.grow (wr.drewN k) os):=hd (by
             have h:=Tryz.strconv_Itoa (((σ.num+1:Nat)):Int) (by omega) (by omega) wr ((Ht.out.below HB1.out Ht.out.lt).below HBr.out (Nat.lt_of_lt_of_le Ht.out.lt HB1.out.size))
             rw[<-hA]at h
             exact h)
            have hAz:A.size<=21:=by have:=itoa_len (σ.num+1) (by omega);rw[hA];simpa[ByteArray.size]using this
            have HAd:Hid (A.data.toList=Lib.itoa (((σ.num+1:Nat)):Int)):=hd (by rw[hA])
            have HF:Hid ((O2++(A++⟨#[58]⟩)++(part++⟨#[10]⟩)).data.toList=σ.out++(L.take (t+1)).flatMap (fmtL o (σ.num+1))):=hd (by
             rw[HT.out,app_l,app_l,app_l,app_l,HO2.out,HAd.out,HPd.out]
             unfold fmtL
             rw[if_pos hnb]
             simp only[List.append_assoc])
            have a1:=add_strD A ⟨#[58]⟩ (by show A.size+1<=_;omega)
            have a2:=add_strD O2 (A++⟨#[58]⟩) (by rw[ByteArray.size_append];show O2.size+(A.size+1)<=_;omega)
            have a4:=add_strD (O2++(A++⟨#[58]⟩)) (part++⟨#[10]⟩) (by rw[ByteArray.size_append,ByteArray.size_append,ByteArray.size_append];show O2.size+(A.size+1)+(part.size+1)<=_;omega)
            rw[hnb]at q3
            clear hA hnb
            go_wp2_with fail
            refine Hit.out.mono ?_
            rintro e4 w4 ⟨rfl,k,os,hw4⟩
            have HB4:Hid (Below wc.heap.size wc w4):=hd (by subst hw4;exact HBt.out.trans ((below_grow wr k os).mono HBt.out.size))
            clear hw4 Hit d1 q3 lb lo
            go_wp2
            go_roundg (gk-1)
            case measure=>omega
            case rel=>exact⟨t+1,_,by go_num,rfl,by omega,by omega,HB4,HF⟩
           ·have HF:Hid ((O2++(part++⟨#[10]⟩)).data.toList=σ.out++(L.take (t+1)).flatMap (fmtL o (σ.num+1))):=hd (by
             rw[HT.out,app_l,app_l,HO2.out,HPd.out]
             unfold fmtL
             rw[if_neg (by rw[hnb];simp)]
             simp only[List.append_assoc,List.nil_append])
            have a4:=add_strD O2 (part++⟨#[10]⟩) (by rw[ByteArray.size_append];show O2.size+(part.size+1)<=_;omega)
            rw[hnb]at q3
            clear hnb
            go_wp2
            go_roundg (gk-1)
            case measure=>omega
            case rel=>exact⟨t+1,_,by go_num,rfl,by omega,by omega,HBt,HF⟩
          ·obtain rfl:t=L.length:=by omega
           have HOz:Hid (O2.data.toList=σ.out++lineOut p.data.toList (nc o) (σ.num+1) ln.data.toList):=hd (by have h:=HO2.out;rw[List.take_length,HLo.out]at h;exact h)
           go_wp2
           go_roundg gf
           case measure=>omega
           case rel=>exact⟨R,O2,⟨σ.num+1,σ.ch+1,σ.out++lineOut p.data.toList (nc o) (σ.num+1) ln.data.toList⟩,i+1,rfl,rfl,by go_num,by go_num,hRf,hRs,HS1,HOz,HR2,HBr⟩
 ·have HE:Hid (grepE p.data.toList t.data.toList o=([],2)):=hd (by
   unfold grepE
   split<;>first|rfl|rw[if_pos he])
  have heI:(((parseT p.data.toList).1:Int)==0)=false:=beq_eq_false_iff_ne.2 (by omega)
  go_wp2
  refine bodyPost_ret (v:= .tuple #[.string ⟨#[]⟩,.int .i64 2]) (by simp[results,Tryz.results6,go_sem]) rfl ⟨HB1.out,⟨#[]⟩,?_,?_⟩
  ·rw[HE.out];rfl
  ·rw[HE.out]
end Go.Proofs.YtldiemjlpnachaaGreatDoor
set_option maxHeartbeats 3200000
set_option maxRecDepth 100000
namespace Go.Proofs.YtldiemjlpnachaaGreatDoor
open Go.RowKit
def optN(k:Int):Opt:=⟨decide (0<bits .and .i64 k 1),decide (0<bits .and .i64 k 2),decide (0<bits .and .i64 k 4),decide (0<bits .and .i64 k 8)⟩
theorem info_opts:(Tryz.prog.info? 25).map (·.size)=some 4:=by kernel_rfl
theorem options_any(k:Int)(w:World):Calls Tryz.prog 5 #[.int .i64 k] w fun e w'=>e= .returned (optV (optN k))/\Below w.heap.size w w':=by
 go_enter Tryz.func5,Tryz.ntmps5
 go_wp2
 exact bodyPost_ret (v:=optV (optN k)) (results_cell_row Tryz.results5 _ _ w.heap.size _ _ _ _ rfl (heap_alloc_new _ _) Tryz.underlying25 rfl info_opts) rfl ⟨rfl,(Below.refl _ _).alloc (Nat.le_refl _) _⟩
theorem bytes_same{A B:ByteArray}(h:A.data.toList=B.data.toList):A=B:=by
 cases A;cases B
 simp only at h
 exact congrArg ByteArray.mk (Array.ext' h)
theorem greps_any(p t:ByteArray)(k:Int)(w:World)(hn:NamesIn w)(hc:ClsW w)(ht:Tb w)(hp:p.size<=maxLen)(hts:t.size<=maxLen):
  Calls Tryz.prog 3 #[.string p,.string t,.int .i64 k] w fun e w'=>e= .returned (.bool true)/\Below w.heap.size w w':=by
 have HO:=hd (options_any k)
 generalize optN k=O at*
 have Hn:=hd hn
 have Hc:=hd hc
 have Ht:=hd ht
 have hp1:=hp
 have hts1:=hts
 unfold maxLen at hp1 hts1
 clear hn hc ht
 go_enter Tryz.func3,Tryz.ntmps3
 by_cases hb1:1048576<p.size
 ·have hI:(1048576:Int)<(p.size:Int):=by omega
  go_wp2
  go_ret
  exact⟨rfl,Below.refl _ _⟩
 have hI:¬(1048576:Int)<(p.size:Int):=by omega
 by_cases hb2:1048576<t.size
 ·have hI2:(1048576:Int)<(t.size:Int):=by omega
  go_wp2
  go_ret
  exact⟨rfl,Below.refl _ _⟩
 have hI2:¬(1048576:Int)<(t.size:Int):=by omega
 go_wp2_with fail
 refine(HO.out w).mono ?_
 rintro e wa ⟨rfl,hba⟩
 have Hba:=hd hba
 clear hba
 go_wp2_with fail
 refine(ggrep_any p t O wa (Hn.out.below Hba.out Hn.out.lt) (Ht.out.below Hba.out Ht.out.lt) hp hts).mono ?_
 rintro e wb ⟨hbb,A,rfl,hA⟩
 have Hbb:=hd (Hba.out.trans (hbb.mono Hba.out.size))
 clear hbb
 go_wp2_with fail
 refine(HO.out wb).mono ?_
 rintro e wc ⟨rfl,hbc⟩
 have Hbc:=hd (Hbb.out.trans (hbc.mono Hbb.out.size))
 clear hbc
 go_wp2_with fail
 refine(dgrep_any p t O wc (Hc.out.below Hbc.out) (Ht.out.below Hbc.out Ht.out.lt) hp hts).mono ?_
 rintro e wd ⟨hbd,B,rfl,hB⟩
 have Hbd:=hd (Hbc.out.trans (hbd.mono Hbc.out.size))
 obtain rfl:=bytes_same (hA.trans hB.symm)
 clear hA hB hbd HO
 generalize (grepE p.data.toList t.data.toList O).2=st at*
 go_wp2
 go_ret
 exact⟨rfl,Hbd.out⟩
end Go.Proofs.YtldiemjlpnachaaGreatDoor
