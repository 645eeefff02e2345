import Derived.Test.YtldiemjlpnachaaDoorBcl
import Derived.Test.YtldiemjlpnachaaDoorPike
namespace Go.Proofs.YtldiemjlpnachaaDoor
def ndS(e i:Nat):Nd:=⟨(0,0),e,0,i⟩
def Rk(Δ:Cg)(f0 i:Nat):Nd→Prop:=fun x=>∃j,f0≤j∧j≤i∧Path Δ.ln.data.toList Δ.D Δ.P (ndS Δ.e j) x
def Mp(Δ:Cg)(i j:Nat):Prop:=∃y d,Path Δ.ln.data.toList Δ.D Δ.P (ndS Δ.e i) y∧Δ.D[y.p]?=some (.done,d)∧y.i=j
structure Btw(w0 w:World)(Δ:Cg)(G:Nat→Nat→Bool)(f0 i:Nat)(br:Nat×Nat)(σ:Ss):Prop where
 m:Mut w Δ σ
 low:Low σ
 opn:∀x,InR Δ σ x→Open Δ G x
 snd:∀x,InR Δ σ x→∃j,f0≤j∧j<i∧Path Δ.ln.data.toList Δ.D Δ.P (ndS Δ.e j) x
 all:∀j,f0≤j→j<i→InR Δ σ (ndS Δ.e j)
 cl:∀x,InR Δ σ x→Cls Δ σ x
 fd:σ.fd=false
 qn:σ.Q= []
 wt:∀h,σ.wt h=false
 tb:∀h,-1≤σ.tp h∧σ.tp h<Δ.D.length
 un:Un σ
 hX:σ.X (0,0)=some br
 k:Kp w0 w Δ
structure Frm(Δ:Cg)(G:Nat→Nat→Bool):Prop where
 sure:Sure Δ
 ty:∀p,p<Δ.D.length→StOk Δ.D Δ.k G p
 pl:∀j,j<Δ.P.count→∀i,Δ.P.at_ j i=true→i+Δ.P.sz j≤Δ.ln.size
 K4:Δ.K≤400
 en:Tg Δ.D G Δ.e 0 (fun _=>false)
theorem Frm.fix{Δ:Cg}{G:Nat→Nat→Bool}(F:Frm Δ G)(f0 i:Nat):Fix Δ G (Rk Δ f0 i):=
 ⟨F.sure,F.ty,fun _ _ ⟨j,h1,h2,h3⟩ e=>⟨j,h1,h2,h3.tail e⟩,F.pl⟩
theorem cls_path{Δ:Cg}{σ:Ss}(cl:∀x,InR Δ σ x→Cls Δ σ x){x y:Nd}(h:Path Δ.ln.data.toList Δ.D Δ.P x y):InR Δ σ x→InR Δ σ y:=by
 induction h with
 |refl=>exact fun h=>h
 |head e _ ih=>exact fun h=>ih ((cl _ h).1 _ e)
theorem Frm.vh{Δ:Cg}{G:Nat→Nat→Bool}(F:Frm Δ G):Vh Δ (0,0):=by
 have:=F.sure.K1
 exact⟨by show 0<Δ.K;omega,by show 0<Δ.K;omega,fun _=>rfl⟩
theorem Btw.no{w0 w:World}{Δ:Cg}{G:Nat→Nat→Bool}{f0 i:Nat}{br:Nat×Nat}{σ:Ss}(g:Btw w0 w Δ G f0 i br σ){a b:Nat}(ha:f0≤a)(hi:a<i):¬Mp Δ a b:=by
 rintro⟨y,d,h1,h2,_⟩
 have h:=(g.cl y (cls_path g.cl h1 (g.all a ha hi))).2 ⟨d,h2⟩
 rw[g.fd]at h
 cases h.1
theorem Btw.runs{w0 w w1:World}{Δ:Cg}{G:Nat→Nat→Bool}{f0 i:Nat}{br:Nat×Nat}{σ:Ss}(F:Frm Δ G)(g:Btw w0 w Δ G f0 i br σ)(hf:f0≤i)(hi:i≤Δ.ln.size)(m:Mut w1 Δ (reachS Δ σ (0,0) Δ.e 0 (2^i))):
  Runs w1 w1 Δ G (Rk Δ f0 i) (reachS Δ σ (0,0) Δ.e 0 (2^i)) (reachS Δ σ (0,0) Δ.e 0 (2^i))∧(∀h,(reachS Δ σ (0,0) Δ.e 0 (2^i)).wt h=true→h∈(reachS Δ σ (0,0) Δ.e 0 (2^i)).Q)∧(reachS Δ σ (0,0) Δ.e 0 (2^i)).Q.length+Phi Δ (reachS Δ σ (0,0) Δ.e 0 (2^i))≤9000000000000∧
  (∀x,InR Δ (reachS Δ σ (0,0) Δ.e 0 (2^i)) x↔InR Δ σ x∨x=ndS Δ.e i)∧Ext σ (reachS Δ σ (0,0) Δ.e 0 (2^i)):=by
 obtain⟨ky,ke,he,_,hG⟩:=F.en
 have hl:=F.sure.l24
 have hz:2^i<2^25:=Nat.pow_lt_pow_right (by omega) (by omega)
 have hup:=up_reach g.low (h:=(0,0)) he (Nat.zero_le ke) hz
 have hpg:Pg Δ σ (reachS Δ σ (0,0) Δ.e 0 (2^i)):=pg_reach g.low hz F.vh ⟨by rw[F.sure.lv];exact fi_lt he (Nat.zero_le _),(List.getElem?_eq_some_iff.1 he).1⟩
 have hin:∀x,InR Δ (reachS Δ σ (0,0) Δ.e 0 (2^i)) x↔InR Δ σ x∨x=ndS Δ.e i:=fun x=>by
  rw[reach_in he (Nat.zero_le ke) hz (g.low _ _) x]
  constructor
  ·rintro(h|⟨h1,h2,h3,h4⟩)
   ·exact .inl h
   ·refine .inr ?_
    have h5:x.i=i:=by
     rw[Nat.testBit_two_pow]at h4
     exact(of_decide_eq_true h4).symm
    obtain⟨a,b,c,d⟩:=x
    simp only at h1 h2 h3 h5
    rw[h1,h2,h3,h5]
    rfl
  ·rintro(h|rfl)
   ·exact .inl h
   ·exact .inr ⟨rfl,rfl,rfl,by show(2^i).testBit i=true;rw[Nat.testBit_two_pow];simp⟩
 have hX:(reachS Δ σ (0,0) Δ.e 0 (2^i)).X=σ.X:=by unfold reachS;split<;>rfl
 have hfd:(reachS Δ σ (0,0) Δ.e 0 (2^i)).fd=σ.fd:=by unfold reachS;split<;>rfl
 have hun:Un (reachS Δ σ (0,0) Δ.e 0 (2^i)):=fun h' hx=>by
  rw[hX]at hx
  have hne:h'≠(0,0):=fun e=>by rw[e,g.hX]at hx;cases hx
  obtain⟨u1,u2,u3⟩:=g.un h' hx
  unfold reachS
  split
  ·exact⟨u1,u2,u3⟩
  ·exact⟨fun m=>by show(if h'=(0,0)∧m=_ then _ else _)=0;rw[if_neg (fun e=>hne e.1)];exact u1 m,by show(if h'=(0,0)then _ else _)=_;rw[if_neg hne];exact u2,by show(if h'=(0,0)then _ else _)=_;rw[if_neg hne];exact u3⟩
 obtain⟨l,q1,q2⟩:=hpg.pre
 refine⟨⟨m,⟨g.low.reach _ _ _ _ hz,fun x hx=>?_,fun x hx=>?_,fun h=>?_⟩,fun x hx _=>?_,fun _ h=>h,Nat.le_refl _,Nat.le_refl _,⟨[],by simp,fun _ h=> .inl h⟩,fun h=>⟨Int.le_trans (g.tb h).1 (hup.tp h),hpg.tb h (g.tb h).2⟩,fun _ _ h=>h,hun,Kp.refl _ _⟩,fun h hw=>?_,?_,hin,fun h b hh=>by rw[hX];exact hh⟩
 ·rcases(hin x).1 hx with h|rfl
  ·exact g.opn x h
  ·exact⟨hi,fun s _ hs=>by have hs':G Δ.e s=true:=hs;rw[hG]at hs';cases hs'⟩
 ·rcases(hin x).1 hx with h|rfl
  ·obtain⟨j,h1,h2,h3⟩:=g.snd x h
   exact⟨j,h1,by omega,h3⟩
  ·exact⟨i,hf,Nat.le_refl _,.refl _⟩
 ·rw[hfd,g.fd]at h;cases h
 ·rcases hup.nw x hx with h|h
  ·exact .inr ((g.cl x h).up hup)
  ·exact .inl h
 ·rcases q2 h hw with h1|h1
  ·rw[g.wt]at h1;cases h1
  ·rw[q1];exact List.mem_append.2 (.inr h1)
 ·have h1:=hpg.q
  have h2:=Phi_bd Δ σ F.K4 F.sure.lb
  rw[g.qn]at h1
  simp only[List.length_nil]at h1
  omega
theorem Btw.next{w0 w w1 w2:World}{Δ:Cg}{G:Nat→Nat→Bool}{f0 i:Nat}{br:Nat×Nat}{σ σ1 σ2:Ss}(g:Btw w0 w Δ G f0 i br σ)(k1:Kp w w1 Δ)(hin:∀x,InR Δ σ1 x↔InR Δ σ x∨x=ndS Δ.e i)(hx:Ext σ σ1)(r:Rests w1 w2 Δ G (Rk Δ f0 i) σ1 σ2)(hfd:σ2.fd=false):Btw w0 w2 Δ G f0 (i+1) br σ2:=
 ⟨r.m,r.iv.low,r.iv.opn,fun x hx=>by obtain⟨j,h1,h2,h3⟩:=r.iv.snd x hx;exact⟨j,h1,by omega,h3⟩,fun j h1 h2=>r.rc _ ((hin _).2 (by
  by_cases e:j=i
  ·exact .inr (by rw[e])
  ·exact .inl (g.all j h1 (by omega)))),r.cl,hfd,r.qn,r.wt,r.tb,r.un,r.xt _ _ (hx _ _ g.hX),g.k.trans (k1.trans r.k)⟩
theorem Btw.best{w0 w w1 w2:World}{Δ:Cg}{G:Nat→Nat→Bool}{f0 i n:Nat}{br:Nat×Nat}{σ σ1 σ2:Ss}(g:Btw w0 w Δ G f0 i br σ)(hf:f0≤i)(hi:i≤n)(hin:∀x,InR Δ σ1 x↔InR Δ σ x∨x=ndS Δ.e i)(r:Rests w1 w2 Δ G (Rk Δ f0 i) σ1 σ2)(hfd:σ2.fd=true):Best n (Mp Δ) f0 true i σ2.to_:=by
 refine⟨fun _=>⟨hf,hi,?_,fun a b ha _ hM=>?_⟩,fun h=>by cases h⟩
 ·obtain⟨x,d,h1,h2,h3⟩:=r.iv.fnd hfd
  obtain⟨j,j1,j2,j3⟩:=r.iv.snd x h1
  by_cases e:j=i
  ·rw[e]at j3;exact⟨x,d,j3,h2,h3⟩
  ·exact absurd ⟨x,d,j3,h2,rfl⟩ (g.no (b:=x.i) j1 (by omega))
 ·by_cases e:a<i
  ·exact absurd hM (g.no ha e)
  ·refine⟨by omega,fun e2=>?_⟩
   obtain⟨y,d,h1,h2,h3⟩:=hM
   rw[e2]at h1
   have hy:=cls_path r.cl h1 (r.rc _ ((hin _).2 (.inr rfl)))
   rw[←h3]
   exact((r.cl y hy).2 ⟨d,h2⟩).2
theorem Btw.none{w0 w:World}{Δ:Cg}{G:Nat→Nat→Bool}{f0 n:Nat}{br:Nat×Nat}{σ:Ss}(g:Btw w0 w Δ G f0 (n+1) br σ):Best n (Mp Δ) f0 false 0 0:=
 ⟨fun h=>(by cases h),fun _=>⟨rfl,rfl,fun _ _ h1 h2=>g.no h1 (by omega)⟩⟩
def ssN:Ss:=⟨fun _=> .none,fun _ _=>0,fun _=>0,fun _=>false,[],false,0⟩
theorem inR_no{Δ:Cg}{x:Nd}{σ:Ss}(h:σ.rc=fun _ _=>0):¬InR Δ σ x:=by
 rintro⟨_,_,_,_,h2⟩
 rw[h,Nat.zero_testBit]at h2
 cases h2
theorem Btw.first{w0 w:World}{Δ:Cg}{G:Nat→Nat→Bool}(F:Frm Δ G)(f0:Nat)(b r:Nat)(m:Mut w Δ (metS ssN (0,0) b r))(k:Kp w0 w Δ):Btw w0 w Δ G f0 f0 (b,r) (metS ssN (0,0) b r):=by
 have hn:∀x,¬InR Δ (metS ssN (0,0) b r) x:=fun x=>inR_no rfl
 obtain⟨_,_,he,_⟩:=F.en
 have hl:0<Δ.D.length:=Nat.lt_of_le_of_lt (Nat.zero_le _) (List.getElem?_eq_some_iff.1 he).1
 exact⟨m,fun _ _=>by show 0<2^25;omega,fun x h=>absurd h (hn x),fun x h=>absurd h (hn x),fun j h1 h2=>absurd h2 (by omega),fun x h=>absurd h (hn x),rfl,rfl,fun _=>rfl,fun _=>⟨by show(-1:Int)≤0;omega,by show(0:Int)<_;omega⟩,fun _ _=>⟨fun _=>rfl,rfl,rfl⟩,(by show(if((0,0):Hd)=(0,0)then some (b,r)else Option.none)=some (b,r);rw[if_pos rfl]),k⟩
end Go.Proofs.YtldiemjlpnachaaDoor
namespace Go.Proofs.YtldiemjlpnachaaDoor
open Go.RowKit
structure NewOk(w w':World)(P o:Nat)(s:ByteArray)(M:Nat→Nat→Prop)(Δ:Cg)(G:Nat→Nat→Bool):Prop where
 ln:Δ.ln=s
 pc:Δ.PC=P
 po:Δ.o=o
 r:Rdo w' Δ
 m:Mut w' Δ ssN
 F:Frm Δ G
 bl:Below w.heap.size w w'
 nS:w.heap.size≤Δ.S
 nM:w.heap.size≤Δ.MB
 M:∀i j,i≤s.size→(Mp Δ i j↔M i j)
theorem NewOk.below{w w' w2:World}{P o:Nat}{s:ByteArray}{M:Nat→Nat→Prop}{Δ:Cg}{G:Nat→Nat→Bool}(h:NewOk w w' P o s M Δ G)(k:Kp w' w2 Δ):Below w.heap.size w w2:=
 h.bl.trans ⟨k.os,k.tape,k.output,k.size,fun i hi=>k.block i (by have:=h.nS;have:=h.F.sure.b.bS;omega) (by have:=h.nS;omega) (by have:=h.nM;omega)⟩
theorem best_iff{n:Nat}{M M':Nat→Nat→Prop}{f0:Nat}{fd:Bool}{a b:Nat}(h:Best n M f0 fd a b)(e:∀i j,i≤n→(M i j↔M' i j)):Best n M' f0 fd a b:=
 ⟨fun hf=>by obtain⟨h1,h2,h3,h4⟩:=h.1 hf;exact⟨h1,h2,(e _ _ h2).1 h3,fun i j g1 g2 g3=>h4 i j g1 g2 ((e _ _ g2).2 g3)⟩,fun hf=>by obtain⟨h1,h2,h3⟩:=h.2 hf;exact⟨h1,h2,fun i j g1 g2 g3=>h3 i j g1 g2 ((e _ _ g2).2 g3)⟩⟩
set_option maxRecDepth 100000 in
set_option maxHeartbeats 3200000 in
theorem findBack_any{w:World}{P o:Nat}{s:ByteArray}{M:Nat→Nat→Prop}{fr:Nat}(hs:s.size≤24)(hf:fr≤s.size)
  (hN:Calls Tryd.prog 53 #[.pointer (some ⟨P,o,none⟩),.string s] w fun e w'=>∃Δ G,e= .returned (.pointer (some ⟨Δ.S,0,none⟩))∧NewOk w w' P o s M Δ G):
  Calls Tryd.prog 40 #[.pointer (some ⟨P,o,none⟩),.string s,.int .i64 fr] w fun e w'=>Below w.heap.size w w'∧∃(fd:Bool) (a b:Nat),e= .returned (.tuple #[.int .i64 a,.int .i64 b,.bool fd])∧Best s.size M fr fd a b:=by
 have HN:=hd hN
 clear hN
 have d0:decide ((fr:Int)<0)=false:=by simp
 have d1:decide ((s.size:Int)<(fr:Int))=false:=by simp;omega
 have d2:decide ((24:Int)<(s.size:Int))=false:=by simp;omega
 have hf0:(0:Int)≤(fr:Int):=by omega
 have hf1:(fr:Int)≤(s.size:Int):=by omega
 have hs1:(s.size:Int)≤24:=by omega
 go_enter Tryd.func40,Tryd.ntmps40
 go_wp2_with fail
 refine HN.out.mono ?_
 rintro e1 w1 ⟨Δ,G,rfl,N⟩
 have HNk:=hd N
 obtain⟨rfl,rfl,rfl,r1,m1,F,_,_,_,_⟩:=N
 have HF:=hd F
 have Hset:Hid (Calls Tryd.prog 54 #[.pointer (some ⟨Δ.S,0,none⟩),.agg #[.int .i64 0,.int .i64 0]] w1 fun e w'=>∃b rb,e= .returned (.pointer (some ⟨b,0,none⟩))∧(ssN.X (0,0)=some (b,rb)∧Mut w' Δ ssN∨ssN.X (0,0)=none∧Mut w' Δ (metS ssN (0,0) b rb))∧Kp w1 w' Δ):=hd (settingOf_any F.sure.b r1 m1 (fun _ _=>⟨fun _=>rfl,rfl,rfl⟩) F.vh F.sure.k12 F.sure.Kle F.sure.room F.sure.lb)
 have Hr1:=hd r1
 clear r1 m1 F HN
 go_wp2_with fail
 refine Hset.out.mono ?_
 rintro e2 w2 ⟨b,rb,rfl,hm,k2⟩
 have hm2:Mut w2 Δ (metS ssN (0,0) b rb):=by
  rcases hm with⟨h1,_⟩|⟨_,h1⟩
  ·cases h1
  ·exact h1
 have HB:=hd (Btw.first HF.out fr b rb hm2 k2)
 clear hm hm2 k2 Hset
 go_wp2_with fail
 go_loopg [11] (Δ.ln.size+2) (fun k iv wr=>∃(t:Nat) (σ:Ss),iv= .int .i64 t∧fr≤t∧t≤Δ.ln.size+1∧Δ.ln.size+1<t+k∧Hid (Btw w1 wr Δ G fr t (b,rb) σ))
 case atStart=>exact⟨fr,_,rfl,Nat.le_refl _,by omega,by omega,HB⟩
 case round=>
  obtain⟨t,σ,rfl,ht0,ht1,htk,HG⟩:=hrel
  have ht0':(0:Int)≤(t:Int):=by omega
  by_cases hle:t≤Δ.ln.size
  ·have ht1':(t:Int)≤(Δ.ln.size:Int):=by omega
   have hr:=Hr1.out.kp HF.out.sure.b HG.out.k
   have p1:=hr.p1
   obtain⟨ky,ke,he,_,_⟩:=HF.out.en
   have Hre:Hid (∀W:World,Rdo W Δ→Mut W Δ σ→Calls Tryd.prog 55 #[.pointer (some ⟨Δ.S,0,none⟩),.pointer (some ⟨b,0,none⟩),.int .i64 Δ.e,.int .i64 0,.int .u32 (2^t:Nat)] W fun e w'=>e= .returned (.tuple #[])∧Mut w' Δ (reachS Δ σ (0,0) Δ.e 0 (2^t))∧Kp W w' Δ):=hd (fun W hW hM=>reach_any HF.out.sure.b hW hM HG.out.hX he (Nat.zero_le ke) (show 2^t<2^25 from Nat.pow_lt_pow_right (by omega) (by omega)) HF.out.sure.lv HF.out.sure.lb (by rw[HG.out.qn];exact Nat.zero_le _))
   have Hon:=hd (fun W:World=>only_any W (t:Int) t rfl (show t≤25 by omega))
   have Hrd:=hd hr
   have hb:=HF.out.sure.b
   clear hr he
   go_wp2_with fail
   go_region_held3 (fun w'=>w'.cell? ⟨Δ.PC,Δ.o+1,none⟩=some (.int .i64 Δ.e)) (go_keep)
    ((first
     |(go_at_call 56;refine(Hon.out _).mono ?_;rintro e3 w3 ⟨rfl,rfl⟩)
     |(go_at_call 55;refine(Hre.out _ (by exact Hrd.out.kp hb (Kp.refl _ Δ).drew) (by exact HG.out.m.drew)).mono ?_;rintro e4 w4 ⟨rfl,m4,k4'⟩;have z1:w4.cell? ⟨Δ.PC,Δ.o+1,none⟩=some (.int .i64 Δ.e):=k4'.fcell hb.bP hb.nP hb.mP (by exact p1))))
   have k4:Kp wr w4 Δ:=(Kp.refl wr Δ).drew.trans k4'
   obtain⟨g1,g2,g3,g4,g5⟩:=HG.out.runs HF.out ht0 hle m4
   have Hfa:=hd (followAll_any (HF.out.fix fr t) (Hrd.out.kp HF.out.sure.b k4) g1 g2 g3)
   have Hin:=hd g4
   have Hxt:=hd g5
   have Hk4:=hd k4
   clear g1 g2 g3 g4 g5 m4 k4 k4' z1 Hre Hon p1
   go_wp2_with fail
   refine Hfa.out.mono ?_
   rintro e5 w5 ⟨rfl,σ5,R⟩
   have HR:=hd R
   have c632:=R.m.c632
   have c633:=R.m.c633
   clear R Hfa
   cases hfd:σ5.fd with
   |false=>
    have HG5:=hd (HG.out.next Hk4.out Hin.out Hxt.out HR.out hfd)
    rw[hfd]at c632
    clear hfd HR Hin Hxt Hk4 HG
    go_wp2
    go_roundg (gk-1)
    case measure=>omega
    case rel=>exact⟨t+1,σ5,by go_num,by omega,by omega,by omega,HG5⟩
   |true=>
    have Hbe:=hd (best_iff (HG.out.best ht0 hle Hin.out HR.out hfd) HNk.out.M)
    have Hbl:=hd (HNk.out.below (HG.out.k.trans (Hk4.out.trans HR.out.k)))
    rw[hfd]at c632
    clear hfd HR Hin Hxt Hk4 HG
    go_wp2
    go_quiet (fail)
    go_wp2
    go_ret3
    exact⟨⟨Hbl.out.os,Hbl.out.tape,Hbl.out.output,Hbl.out.size,Hbl.out.block⟩,true,t,σ5.to_,rfl,Hbe.out⟩
  ·have h1:t=Δ.ln.size+1:=by omega
   have HG2:Hid (Btw w1 wr Δ G fr (Δ.ln.size+1) (b,rb) σ):=hd (by rw[←h1];exact HG.out)
   have Hbe:=hd (best_iff (Btw.none HG2.out) HNk.out.M)
   have Hbl:=hd (HNk.out.below HG.out.k)
   have hgt:(Δ.ln.size:Int)<(t:Int):=by omega
   have hgd:decide ((t:Int)≤(Δ.ln.size:Int))=false:=by simp;omega
   clear HG HG2 h1 hle ht1 htk
   go_wp2
   go_ret3
   exact⟨Hbl.out,false,0,0,rfl,Hbe.out⟩
end Go.Proofs.YtldiemjlpnachaaDoor
namespace Go.Proofs.YtldiemjlpnachaaDoor
theorem slots_ty{D:List Sd}{k:Nat}{G:Nat→Nat→Bool}(h:∀p,p<D.length→StOk D k G p)(hk:k≤2):SlotsLt D 2:=by
 intro p x hx
 have hp:p<D.length:=(List.getElem?_eq_some_iff.1 hx).1
 obtain⟨x,d⟩:=x
 have h1:=h p hp x d hx
 cases x with
 |opn s n=>simp only at h1 ⊢;have:=h1.1;omega
 |shut s n=>simp only at h1 ⊢;have:=h1.1;omega
 |bck s n=>simp only at h1 ⊢;have:=h1.1;omega
 |_=>trivial
theorem mp_mg{Δ:Cg}{rf:List Nat}{r:List Tr}(hrf:rf≠ [])(hD:Δ.D=(buildD rf r).1)(he:Δ.e=(buildD rf r).2)(hP:PrtOk Δ.ln.data.toList Δ.P)(hl:Δ.ln.data.toList.length≤24)(hS:SlotsLt Δ.D 2)(i j:Nat)(hi:i≤Δ.ln.data.toList.length):
  Mp Δ i j↔∃μ,MgRow Δ.ln.data.toList rf r (i,fun _=> .no) (j,μ):=by
 rw[←buildD_ok _ rf hrf r,←hD,←he]
 have hk:MkOk i (fun _=> .no):=fun _=>trivial
 constructor
 ·rintro⟨y,d,h1,h2,rfl⟩
  exact path_run hP hl hS h1 (i,fun _=> .no) rfl rfl hi hk ⟨d,h2⟩
 ·rintro⟨m,hm⟩
  obtain⟨hh,p',v',d,h1,h2⟩:=run_path hP hl hS hm hi hk
  exact⟨_,d,h2,h1,rfl⟩
end Go.Proofs.YtldiemjlpnachaaDoor
