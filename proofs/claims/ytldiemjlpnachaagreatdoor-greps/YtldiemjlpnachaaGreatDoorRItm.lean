import Derived.Test.YtldiemjlpnachaaGreatDoorRSim
import Derived.Lib.SmallJoins
set_option maxHeartbeats 3200000
set_option maxRecDepth 100000
namespace Go.Proofs.YtldiemjlpnachaaGreatDoor
open Go.RowKit
def ItmPost(w w':World)(r:Ending)(R P:Nat)(s:ByteArray)(H:Fins)(vo:Value)(σ:St):Prop:=
 ∃(b j:Nat) (it:It) (τ':RSt),r= .returned (.tuple #[.pointer (some ⟨b,0,none⟩),.int .i64 j])/\ItPost w w' R P s H vo τ' b it/\σ.pos<j/\j<=s.size/\(it.1≠1/\it.2<=21002*((j-σ.pos:Nat):Int))/\Res s.data.toList σ j τ' (KIt σ it)
section
variable {w : World} {R P : Nat} {s : ByteArray} {H : Fins} {vo : Value} {τ : RSt} {σ : St}
theorem item_brk(h:Rg w R P s H vo τ)(hS:Sim σ τ)(hC:ClsH H)(hs:s.size<=60)(hp:σ.pos<s.size)(hx:ch s.data.toList σ.pos=91):
  Calls Tryz.prog 33 #[.pointer (some ⟨R,0,none⟩),.int .i64 σ.pos] w fun r w'=>ItmPost w w' r R P s H vo σ:=by
 have c0:=h.c0
 rcases hq:brk s.data.toList σ.pos with⟨e0,q0⟩
 have Hb:=hd (fun i hi=>rbracket_any h hS.err hC hs σ.pos i hi hp e0 q0 hq)
 have Hfin:Hid (∀(w':World) (G:Nat->Bool),ItPost w w' R P s H vo (errT τ e0 q0) w.heap.size (itOne G)->(e0=0->G=brkSet s.data.toList σ.pos)->ItmPost w w' (.returned (.tuple #[.pointer (some ⟨w.heap.size,0,none⟩),.int .i64 (brkPl s.data.toList e0 q0)])) R P s H vo σ):=by
  intro w' G hi hG
  have hl:=len_data s
  have hst:stepT s.data.toList σ=brkT s.data.toList σ:=by unfold stepT;rw[if_neg (by omega),if_pos hx]
  by_cases he:e0=0
  ·subst he
   obtain rfl:=hG rfl
   have hb0:=brk_bd (by omega) hq
   have hb:σ.pos<q0/\q0<=s.data.toList.length:=⟨hb0.2.2 rfl,hb0.2.1⟩
   refine⟨w.heap.size,q0,itOne (brkSet s.data.toList σ.pos),τ,rfl,hi,hb.1,by omega,⟨by show(0:Int)≠1;decide,by show(1:Int)<=_;omega⟩,.inl ⟨{σ with pos:=q0,inner:= {σ.inner with items:=σ.inner.items++ [itOne (brkSet s.data.toList σ.pos)]}},Reach.step (by omega) (hst.trans (by unfold brkT;rw[hq];rfl)) hb.1,?_,rfl,rfl,rfl,rfl,itOne (brkSet s.data.toList σ.pos),rfl,⟨rfl,rfl⟩,.inl ⟨by simp,rfl⟩,by simp,by simp⟩⟩
   exact⟨hS.done,hS.used,by rw[hS.opens];simp[opn],hS.groups,hS.err,hS.g9,hS.cl,hS.rf,hS.r2,hS.num,hS.nums,hS.ol⟩
  ·refine⟨w.heap.size,s.data.toList.length,itOne G,errT τ e0 q0,by unfold brkPl;rw[if_neg he],hi,by omega,by omega,⟨by show(0:Int)≠1;decide,by show(1:Int)<=_;omega⟩,res_err (σ':= {σ with pos:=q0}) (by omega) (hst.trans (by unfold brkT;rw[hq];simp[he])) he rfl (by rw[errT_ne _ _ he]) (by rw[errT_ne _ _ he])⟩
 have hx2:(s[σ.pos].toNat:Int)=91:=by rw[ch_get s _ hp,hx];rfl
 have hp':(σ.pos:Int)<s.size:=by omega
 have hp0:(0:Int)<=(σ.pos:Int):=by omega
 clear hq h hS hx
 go_enter Tryz.func33,Tryz.ntmps33
 go_wp2_with (go_at_call 54;refine(Hb.out _ rfl).mono ?_;rintro e w2 ⟨rfl,G,hi2,hG⟩)
 refine bodyPost_ret (v:= .tuple #[.pointer (some ⟨w.heap.size,0,none⟩),.int .i64 (brkPl s.data.toList e0 q0)]) (by simp[results,Tryz.results33,go_sem]) rfl (Hfin.out _ G hi2 hG)
theorem ch_int{s:ByteArray}{p k:Nat}(hp:p<s.size)(h:ch s.data.toList p=k):(s[p].toNat:Int)=k:=by rw[ch_get s p hp,h]
theorem ch_ne{s:ByteArray}{p k:Nat}(hp:p<s.size)(h:ch s.data.toList p≠k):((s[p].toNat:Int)==(k:Int))=false:=by rw[ch_get s p hp];simp;omega
theorem itm_leaf{w w':World}{k:Int}{tr:Tr}{wd b:Nat}(hS:Sim σ τ)(hp:σ.pos<s.size)(hw:0<wd)(hle:σ.pos+wd<=s.size)(hst:stepT s.data.toList σ=(0,addIt σ ⟨k,1,tr⟩ wd))(hi:ItPost w w' R P s H vo τ b ⟨k,1,tr⟩)(i:Int)(hij:i=((σ.pos+wd:Nat):Int))(hk1:k≠1:=by decide):
  ItmPost w w' (.returned (.tuple #[.pointer (some ⟨b,0,none⟩),.int .i64 i])) R P s H vo σ:=by
 subst hij
 have hl:=len_data s
 exact⟨b,σ.pos+wd,⟨k,1,tr⟩,τ,rfl,hi,by omega,hle,⟨hk1,by show(1:Int)<=_;omega⟩,res_add hS (by omega) k tr wd hw hst⟩
theorem item_dot(h:Rg w R P s H vo τ)(hS:Sim σ τ)(hs:s.size<=60)(hp:σ.pos<s.size)(hx:ch s.data.toList σ.pos=46):
  Calls Tryz.prog 33 #[.pointer (some ⟨R,0,none⟩),.int .i64 σ.pos] w fun r w'=>ItmPost w w' r R P s H vo σ:=by
 have c0:=h.c0
 have Hst:Hid (stepT s.data.toList σ=(0,addIt σ (itOne (addR noS 0 255)) 1)):=by unfold stepT;rw[if_neg (by omega),if_neg (by omega),if_pos hx];exact hd rfl
 have HS:=hd hS
 have Hbk:=hd h.bk
 have hx2:(s[σ.pos].toNat:Int)=46:=ch_int hp hx
 have hp':(σ.pos:Int)<s.size:=by omega
 have hp0:(0:Int)<=(σ.pos:Int):=by omega
 clear h hS hx
 go_enter Tryz.func33,Tryz.ntmps33
 go_wp2_with (first
  |refine wp_b0 ⟨#[98,121,116,101]⟩ rfl rfl ?_
  |refine wp_bx (.tmp 31) ⟨#[98,121,116,101]⟩ 0 none 0 0 rfl rfl rfl ?_)
 generalize hW:w.alloc (.cells (itC ⟨#[98,121,116,101]⟩ 0 none 0 0) 102)=W at*
 have Hw:=hd hW
 clear hW c0 hx2
 obtain⟨B,hB⟩:∃B,w.heap.size=B:=⟨_,rfl⟩
 have HB:=hd hB
 rw[hB]at Hbk
 simp only[hB]
 clear hB
 go_loopg [8,33] 257 (fun f _ c wx=>∃n:Nat,c= .int .i64 n/\n<=256/\256<n+f/\Hid (Bk w wx R P B (addR' noS 0 n) s H vo vo τ))
 case atStart=>exact⟨0,rfl,by omega,by omega,hd (Hbk.out.cg (fun c _=>(addR'_0 noS 0 c).symm))⟩
 case round=>
  obtain⟨n,rfl,hn1,hn2,Hb⟩:=hrel
  by_cases hn:n<256
  ·have hb0:=Hb.out.it.cell n hn
   generalize addR' noS 0 n n=b0 at hb0
   have fz:=Hb.out.it.free
   obtain⟨g2,rfl⟩:∃g2,gk=g2+1:=⟨gk-1,by omega⟩
   go_wp2
   go_roundg g2
   case measure=>omega
   case rel=>exact⟨n+1,by go_num,by omega,by omega,hd ((Hb.out.set n hn _).cg (fun c _=>addR'_s noS (Nat.zero_le n) c))⟩
  ·go_wp2
   refine bodyPost_ret (v:= .tuple #[.pointer (some ⟨B,0,none⟩),.int .i64 ((σ.pos:Int)+1)]) (by simp[results,Tryz.results33,go_sem]) rfl ?_
   obtain rfl:n=255+1:=by omega
   exact itm_leaf HS.out hp (by omega) (by omega) Hst.out (Hb.out.cg (G:=addR noS 0 255) (fun c _=>addR'_e noS 0 255 c)).done _ (by omega)
end
end Go.Proofs.YtldiemjlpnachaaGreatDoor
namespace Go.Proofs.YtldiemjlpnachaaGreatDoor
open Go.RowKit
section
variable {w : World} {R P : Nat} {s : ByteArray} {H : Fins} {vo : Value} {τ : RSt} {σ : St}
theorem alloc_leaf{w:World}{k:Int}{tr:Tr}{arr:Array Value}{is:ByteArray}(h:Rg w R P s H vo τ)(h1:arr.size=262)(h2:arr[0]?=some (.string is))(h3:isKind k is)(h4:LeafTr arr k tr):ItPost w (w.alloc (.cells arr 102)) R P s H vo τ w.heap.size ⟨k,1,tr⟩:=
 leaf_post (h.alloc _) ((Rkp.refl _ _ _ _).alloc _) (heap_alloc_last _ _) h1 h2 h3 h4 h.new.2.2.2 h.new.1 h.new.2.1 h.new.2.2.1 (Nat.le_refl _)
theorem item_end(h:Rg w R P s H vo τ)(hS:Sim σ τ)(hs:s.size<=60)(hp:σ.pos<s.size)(hx:ch s.data.toList σ.pos=36)(hy:(decide (s.data.toList.length<=σ.pos+1)||sw s.data.toList (σ.pos+1) [92,41])=true):
  Calls Tryz.prog 33 #[.pointer (some ⟨R,0,none⟩),.int .i64 σ.pos] w fun r w'=>ItmPost w w' r R P s H vo σ:=by
 have c0:=h.c0
 have Hst:Hid (stepT s.data.toList σ=(0,addIt σ itFin 1)):=by unfold stepT;rw[if_neg (by omega),if_neg (by omega),if_neg (by omega),if_neg (by omega),if_pos ⟨hx,hy⟩];exact hd rfl
 have HS:=hd hS
 have Hl:=hd (alloc_leaf (k:=2) (is:=⟨#[36]⟩) h (itC_size ⟨#[36]⟩ 0 none 0 0) (itC_0 _ _ _ _ _) (.inr (.inr (.inl ⟨rfl,rfl⟩))) (.inr (.inr (.inl ⟨rfl,rfl⟩))))
 have hx2:(s[σ.pos].toNat:Int)=36:=ch_int hp hx
 have hp':(σ.pos:Int)<s.size:=by omega
 have hp0:(0:Int)<=(σ.pos:Int):=by omega
 rw[len_data]at hy
 have HF:Hid (ItmPost w (w.alloc (.cells (itC ⟨#[36]⟩ 0 none 0 0) 102)) (.returned (.tuple #[.pointer (some ⟨w.heap.size,0,none⟩),.int .i64 ((σ.pos:Int)+1)])) R P s H vo σ):=hd (itm_leaf HS.out hp (by omega) (by omega) Hst.out Hl.out _ (by omega))
 clear h hS hx Hl HS Hst
 by_cases he:σ.pos+1=s.size
 ·have hb:(((σ.pos:Int)+1)==(s.size:Int))=true:=by simp;omega
  clear hy
  go_enter Tryz.func33,Tryz.ntmps33
  go_wp2_with (first
   |refine wp_b0 ⟨#[36]⟩ rfl rfl ?_
   |refine wp_bx (.tmp 63) ⟨#[36]⟩ 0 none 0 0 rfl rfl rfl ?_)
  exact bodyPost_ret (v:= .tuple #[.pointer (some ⟨w.heap.size,0,none⟩),.int .i64 ((σ.pos:Int)+1)]) (by simp[results,Tryz.results33,go_sem]) rfl HF.out
 ·have hb:(((σ.pos:Int)+1)==(s.size:Int))=false:=by simp;omega
  have Hy:Hid (sw s.data.toList (σ.pos+1) [92,41]=true):=by
   have:¬s.size<=σ.pos+1:=by omega
   have h2:sw s.data.toList (σ.pos+1) [92,41]=true:=by simpa[this]using hy
   exact hd h2
  clear hy he
  go_enter Tryz.func33,Tryz.ntmps33
  go_wp2_with (first
   |refine wp_b0 ⟨#[36]⟩ rfl rfl ?_
   |refine wp_bx (.tmp 63) ⟨#[36]⟩ 0 none 0 0 rfl rfl rfl ?_
   |(go_at_call 31;refine(starts_b s _ _ (σ.pos+1) [92,41] _ _ (by omega) rfl Hy.out (by omega) (by decide) (by decide) (by omega)).mono ?_;rintro e w' ⟨rfl,rfl⟩))
  exact bodyPost_ret (v:= .tuple #[.pointer (some ⟨_,0,none⟩),.int .i64 ((σ.pos:Int)+1)]) (by simp[results,Tryz.results33,go_sem]) rfl HF.out
theorem item_byte(h:Rg w R P s H vo τ)(hS:Sim σ τ)(hs:s.size<=60)(hp:σ.pos<s.size)(h92:ch s.data.toList σ.pos≠92)(h91:ch s.data.toList σ.pos≠91)(h46:ch s.data.toList σ.pos≠46)
  (h36:¬(ch s.data.toList σ.pos=36/\(decide (s.data.toList.length<=σ.pos+1)||sw s.data.toList (σ.pos+1) [92,41])=true))(h94:¬(ch s.data.toList σ.pos=94/\σ.inner.items= []))(h42:¬(ch s.data.toList σ.pos=42/\canB σ.inner.items=true)):
  Calls Tryz.prog 33 #[.pointer (some ⟨R,0,none⟩),.int .i64 σ.pos] w fun r w'=>ItmPost w w' r R P s H vo σ:=by
 have c0:=h.c0
 have Hst:Hid (stepT s.data.toList σ=(0,addIt σ (itOne (addS noS (ch s.data.toList σ.pos))) 1)):=by unfold stepT;rw[if_neg h92,if_neg h91,if_neg h46,if_neg h94,if_neg h36,if_neg h42];exact hd rfl
 have HS:=hd hS
 have Hl:=hd (fun(arr:Array Value) (h1:arr.size=262) (h2:arr[0]?=some (.string ⟨#[98,121,116,101]⟩)) (h3:∀d,d<256->arr[1+d]?=some (Value.bool (addS noS (ch s.data.toList σ.pos) d)))=>alloc_leaf (k:=0) (tr:= .one (addS noS (ch s.data.toList σ.pos))) h h1 h2 (.inl ⟨rfl,rfl⟩) (.inl ⟨rfl,_,rfl,h3⟩))
 have Hch:=hd (ch_get s σ.pos hp)
 have n92:((s[σ.pos].toNat:Int)==92)=false:=ch_ne hp h92
 have n91:((s[σ.pos].toNat:Int)==91)=false:=ch_ne hp h91
 have n46:((s[σ.pos].toNat:Int)==46)=false:=ch_ne hp h46
 have n92':((s[σ.pos].toNat:Int) !=92)=true:=by simp[bne];simpa using n92
 have hlt:=UInt8.toNat_lt s[σ.pos]
 have hp':(σ.pos:Int)<s.size:=by omega
 have hp0:(0:Int)<=(σ.pos:Int):=by omega
 have Hb:=hd (byteItem_any s[σ.pos].toNat)
 clear h hS h94 h42 h92 h91 h46
 by_cases hx:ch s.data.toList σ.pos=36
 ·have hx2:((s[σ.pos].toNat:Int)==36)=true:=by rw[ch_int hp hx];rfl
  have hy:(decide (s.data.toList.length<=σ.pos+1)||sw s.data.toList (σ.pos+1) [92,41])=false:=by
   cases hh:(decide (s.data.toList.length<=σ.pos+1)||sw s.data.toList (σ.pos+1) [92,41])
   ·rfl
   ·exact absurd ⟨hx,hh⟩ h36
  rw[len_data]at hy
  simp only[Bool.or_eq_false_iff,decide_eq_false_iff_not]at hy
  have hb:(((σ.pos:Int)+1)==(s.size:Int))=false:=by simp;omega
  have Hy:=hd hy.2
  clear hy h36 hx
  go_enter Tryz.func33,Tryz.ntmps33
  go_wp2_with (first
   |(go_at_call 31;refine(starts_b s _ _ (σ.pos+1) [92,41] _ _ (by omega) rfl Hy.out (by omega) (by decide) (by decide) (by omega)).mono ?_;rintro e w' ⟨rfl,rfl⟩)
   |(go_at_call 55;refine(Hb.out _ hlt).mono ?_;rintro e w' ⟨rfl,arr,rfl,a1,a2,a3⟩))
  refine bodyPost_ret (v:= .tuple #[.pointer (some ⟨_,0,none⟩),.int .i64 ((σ.pos:Int)+1)]) (by simp[results,Tryz.results33,go_sem];rfl) rfl ?_
  exact itm_leaf HS.out hp (by omega) (by omega) Hst.out (Hl.out arr a1 a2 (by rw[<-Hch.out];exact a3)) _ (by omega)
 ·have hx2:((s[σ.pos].toNat:Int)==36)=false:=by have:=ch_ne hp hx;simpa using this
  clear h36 hx
  go_enter Tryz.func33,Tryz.ntmps33
  go_wp2_with ((go_at_call 55;refine(Hb.out _ hlt).mono ?_;rintro e w' ⟨rfl,arr,rfl,a1,a2,a3⟩))
  refine bodyPost_ret (v:= .tuple #[.pointer (some ⟨_,0,none⟩),.int .i64 ((σ.pos:Int)+1)]) (by simp[results,Tryz.results33,go_sem];rfl) rfl ?_
  exact itm_leaf HS.out hp (by omega) (by omega) Hst.out (Hl.out arr a1 a2 (by rw[<-Hch.out];exact a3)) _ (by omega)
end
end Go.Proofs.YtldiemjlpnachaaGreatDoor
namespace Go.Proofs.YtldiemjlpnachaaGreatDoor
open Go.RowKit
def spL:List Nat:= [46,91,93,42,94,36,92]
def spv(n:Nat):Nat:=spL.getD n 0
def spCells:Array Value:= #[.int .u8 46,.int .u8 91,.int .u8 93,.int .u8 42,.int .u8 94,.int .u8 36,.int .u8 92]
theorem spCells_at(n:Nat)(h:n<7):spCells[n]?=some (.int .u8 (spv n)):=by
 rcases(show n=0\/n=1\/n=2\/n=3\/n=4\/n=5\/n=6 by omega)with rfl|rfl|rfl|rfl|rfl|rfl|rfl<;>rfl
theorem spv_lt(n:Nat)(h:n<7):spv n<256:=by
 rcases(show n=0\/n=1\/n=2\/n=3\/n=4\/n=5\/n=6 by omega)with rfl|rfl|rfl|rfl|rfl|rfl|rfl<;>decide
theorem spv_mem(n:Nat)(h:n<7):spv n∈ [46,91,93,42,94,36,92]:=by
 rcases(show n=0\/n=1\/n=2\/n=3\/n=4\/n=5\/n=6 by omega)with rfl|rfl|rfl|rfl|rfl|rfl|rfl<;>decide
theorem spv_all{c:Nat}(h:∀j,j<7->c≠spv j):c ∉ [46,91,93,42,94,36,92]:=by
 have h0:=h 0 (by omega)
 have h1:=h 1 (by omega)
 have h2:=h 2 (by omega)
 have h3:=h 3 (by omega)
 have h4:=h 4 (by omega)
 have h5:=h 5 (by omega)
 have h6:=h 6 (by omega)
 simp[spv,spL]at h0 h1 h2 h3 h4 h5 h6
 simp;omega
theorem ruBytes:Tryz.prog.underlying 32=some (.slice 5):=by kernel_rfl
theorem uByte:Tryz.prog.underlying 5=some (.int .u8):=by kernel_rfl
theorem run_cv(w:World):(convert 32 32 (.slice (some ⟨w.heap.size,0,none⟩) 7 7)).run Tryz.prog (w.alloc (.cells #[.int .u8 46,.int .u8 91,.int .u8 93,.int .u8 42,.int .u8 94,.int .u8 36,.int .u8 92] 5))= .ok (.slice (some ⟨w.heap.size,0,none⟩) 7 7) (w.alloc (.cells #[.int .u8 46,.int .u8 91,.int .u8 93,.int .u8 42,.int .u8 94,.int .u8 36,.int .u8 92] 5 (7,8))):=
 Joins.run_convert_bytes_const_at w _ _ #[.int .u8 46,.int .u8 91,.int .u8 93,.int .u8 42,.int .u8 94,.int .u8 36,.int .u8 92] 7 7 _ rfl ruBytes uByte
theorem sp_more{c n:Nat}(h:∀j,j<n->c≠spv j)(hn:c≠spv n):∀j,j<n+1->c≠spv j:=by
 intro j hj
 by_cases e:j=n
 ·subst e;exact hn
 ·exact h j (by omega)
section
variable {w : World} {R P : Nat} {s : ByteArray} {H : Fins} {vo : Value} {τ : RSt} {σ : St}
theorem step_bs(hx:ch s.data.toList σ.pos=92):stepT s.data.toList σ=escT s.data.toList σ:=by unfold stepT;rw[if_pos hx]
theorem esc_end(hx:ch s.data.toList σ.pos=92)(h:s.size<=σ.pos+1):stepT s.data.toList σ=(3,σ):=by
 rw[step_bs hx];unfold escT;rw[if_pos (by rw[len_data];exact h)]
theorem esc_sp(hx:ch s.data.toList σ.pos=92)(h:¬s.size<=σ.pos+1)(h40:ch s.data.toList (σ.pos+1)≠40)(h41:ch s.data.toList (σ.pos+1)≠41)(h123:ch s.data.toList (σ.pos+1)≠123)(hdg:¬(49<=ch s.data.toList (σ.pos+1)/\ch s.data.toList (σ.pos+1)<=57)):
  stepT s.data.toList σ=if ch s.data.toList (σ.pos+1)∈ [46,91,93,42,94,36,92]then(0,addIt σ (itOne (addS noS (ch s.data.toList (σ.pos+1)))) 2)else(3,σ):=by
 rw[step_bs hx];unfold escT;rw[if_neg (by rw[len_data];exact h),if_neg h40,if_neg h41,if_neg h123,if_neg hdg]
theorem itm_err{w w2:World}{arr:Array Value}{e:Nat}(hr:Rg w2 R P s H vo {τ with err:=e,pl:=σ.pos})(hk:Rkp w w2 R P vo vo)(h1:arr.size=262)(h2:arr[0]?=some (.string ⟨#[98,121,116,101]⟩))(h3:∀d,d<256->arr[1+d]?=some (.bool (addS noS 0 d)))(he:e≠0)(hp:σ.pos<s.size)(hst:stepT s.data.toList σ=(e,σ)):
  ItmPost w (w2.alloc (.cells arr 102)) (.returned (.tuple #[.pointer (some ⟨w2.heap.size,0,none⟩),.int .i64 s.size])) R P s H vo σ:=by
 have hl:=len_data s
 refine⟨w2.heap.size,s.size,itOne (addS noS 0),_,rfl,leaf_post (hr.alloc _) (hk.alloc _) (heap_alloc_last _ _) h1 h2 (.inl ⟨rfl,rfl⟩) (.inl ⟨rfl,_,rfl,h3⟩) hr.new.2.2.2 hr.new.1 hr.new.2.1 hr.new.2.2.1 hk.size,hp,Nat.le_refl _,⟨by decide,by show(1:Int)<=_;omega⟩,res_err (by omega) hst he rfl rfl rfl⟩
theorem item_sp(h:Rg w R P s H vo τ)(hS:Sim σ τ)(hs:s.size<=60)(hp:σ.pos<s.size)(hx:ch s.data.toList σ.pos=92)
  (h40:σ.pos+1<s.size->ch s.data.toList (σ.pos+1)≠40)(h41:σ.pos+1<s.size->ch s.data.toList (σ.pos+1)≠41)(h123:σ.pos+1<s.size->ch s.data.toList (σ.pos+1)≠123)(hdg:σ.pos+1<s.size->¬(49<=ch s.data.toList (σ.pos+1)/\ch s.data.toList (σ.pos+1)<=57)):
  Calls Tryz.prog 33 #[.pointer (some ⟨R,0,none⟩),.int .i64 σ.pos] w fun r w'=>ItmPost w w' r R P s H vo σ:=by
 have c0:=h.c0
 have HS:=hd hS
 have Hh:=hd h
 have Hl:=hd (len_data s)
 have hx2:(s[σ.pos].toNat:Int)=92:=ch_int hp hx
 have hp':(σ.pos:Int)<s.size:=by omega
 have hp0:(0:Int)<=(σ.pos:Int):=by omega
 have h0:=hS.err
 have Hsw:Hid (sw s.data.toList σ.pos [92,40]=false):=by
  rw[sw2,len_data]
  by_cases h1:σ.pos+1<s.size
  ·have:=h40 h1
   have e:(ch s.data.toList (σ.pos+1)==(40:UInt8).toNat)=false:=by simpa using this
   rw[e];simp;trivial
  ·simp[h1];trivial
 by_cases h1:σ.pos+1<s.size
 ·have Hst:=hd (esc_sp hx (by omega) (h40 h1) (h41 h1) (h123 h1) (hdg h1))
  have hdg':=hdg h1
  have hcg:=ch_get s (σ.pos+1) h1
  have hp1:(σ.pos:Int)+1<s.size:=by omega
  have hq0:(0:Int)<=(σ.pos:Int)+1:=by omega
  have Hcg:=hd hcg
  rw[<-hcg]at hdg'
  have hdd:(s[σ.pos+1].toNat:Int)<49\/57<(s[σ.pos+1].toNat:Int):=by omega
  clear h hS hx h40 h41 h123 hdg hdg' hcg
  have hcv:=run_cv
  have HF1:Hid (∀(wx:World) (arr:Array Value) (n:Nat),Rg wx R P s H vo τ->Rkp w wx R P vo vo->arr.size=262->arr[0]?=some (.string ⟨#[98,121,116,101]⟩)->(∀d,d<256->arr[1+d]?=some (.bool (addS noS (spv n) d)))->n<7->ch s.data.toList (σ.pos+1)=spv n->ItmPost w (wx.alloc (.cells arr 102)) (.returned (.tuple #[.pointer (some ⟨wx.heap.size,0,none⟩),.int .i64 ((σ.pos:Int)+2)])) R P s H vo σ):=by
   intro wx arr n hr hk a1 a2 a3 hn hc
   refine itm_leaf HS.out hp (by omega) (by omega) (Hst.out.trans (if_pos (by rw[hc];exact spv_mem n hn))) (leaf_post (hr.alloc _) (hk.alloc _) (heap_alloc_last _ _) a1 a2 (.inl ⟨rfl,rfl⟩) (.inl ⟨rfl,_,rfl,by rw[hc];exact a3⟩) hr.new.2.2.2 hr.new.1 hr.new.2.1 hr.new.2.2.1 hk.size) _ (by omega)
  have HF2:Hid ((∀j,j<7->ch s.data.toList (σ.pos+1)≠spv j)->stepT s.data.toList σ=(3,σ)):=hd fun hh=>Hst.out.trans (if_neg (spv_all hh))
  clear Hst
  rcases hdd with hdd|hdd
  all_goals
   go_enter Tryz.func33,Tryz.ntmps33
   go_wp2_with (go_at_call 31;refine(starts_b s _ _ σ.pos [92,40] _ _ (by omega) rfl Hsw.out (by omega) (by decide) (by decide) (by omega)).mono ?_;rintro e w' ⟨rfl,rfl⟩)
   have hcell:∀n,n<7->(w'.alloc (.cells #[.int .u8 46,.int .u8 91,.int .u8 93,.int .u8 42,.int .u8 94,.int .u8 36,.int .u8 92] 5 (7,8))).cell? ⟨w'.heap.size,n,none⟩=some (.int .u8 (spv n)):=fun n hn=>by
    rw[Joins.cell_alloc_mark_at _ _ _ _ _ n rfl];exact spCells_at n hn
   have Hr:=hd (Hh.out.alloc (.cells #[.int .u8 46,.int .u8 91,.int .u8 93,.int .u8 42,.int .u8 94,.int .u8 36,.int .u8 92] 5 (7,8)))
   have Hk:=hd ((Rkp.refl w' R P vo).alloc (.cells #[.int .u8 46,.int .u8 91,.int .u8 93,.int .u8 42,.int .u8 94,.int .u8 36,.int .u8 92] 5 (7,8)))
   clear Hh hcv c0
   generalize w'.alloc (.cells #[.int .u8 46,.int .u8 91,.int .u8 93,.int .u8 42,.int .u8 94,.int .u8 36,.int .u8 92] 5 (7,8))=W at*
   generalize w'.heap.size=G at*
   go_loop [11,159] (fun _ k=>∃n:Nat,n<=7/\k= .int .i64 n/\Hid (∀j,j<n->ch s.data.toList (σ.pos+1)≠spv j)) (fun _ k=>7-(intOf k).toNat)
   case atStart=>exact⟨0,by omega,rfl,hd fun j hj=>by omega⟩
   case round=>
    obtain⟨n,hn7,rfl,Hno⟩:=hrel
    by_cases hn:n<7
    ·have hc:=hcell n hn
     have hlt:=spv_lt n hn
     by_cases he:s[σ.pos+1].toNat=spv n
     ·have hb:((s[σ.pos+1].toNat:Int)==(spv n:Int))=true:=by simp;omega
      have Hb:=hd (byteItem_any (spv n) W hlt)
      have He:=hd (Hcg.out.symm.trans he)
      clear hcell he
      go_wp2_with (go_at_call 55;refine Hb.out.mono ?_;rintro e w' ⟨rfl,arr,rfl,a1,a2,a3⟩)
      refine bodyPost_ret (v:= .tuple #[.pointer (some ⟨_,0,none⟩),.int .i64 ((σ.pos:Int)+2)]) (by simp[results,Tryz.results33,go_sem];rfl) rfl ?_
      exact HF1.out _ arr n Hr.out Hk.out a1 a2 a3 hn He.out
     ·have hb:((s[σ.pos+1].toNat:Int)==(spv n:Int))=false:=by simp;omega
      have He:=hd (fun h=>he (Hcg.out.trans h))
      clear hcell he
      go_wp2
      go_round
      case rel=>exact⟨n+1,by omega,by go_num,hd (sp_more Hno.out He.out)⟩
      case measure=>simp[intOf];omega
    ·obtain rfl:n=7:=by omega
     have Hst:=hd (HF2.out Hno.out)
     go_wp2_with (first
      |(go_at_call 18;refine(wrong_any Hr.out 3 σ.pos _ rfl h0).mono ?_;rintro e w2 ⟨rfl,hr2,hk2⟩)
      |(go_at_call 55;refine(byteItem_any 0 _ (by omega)).mono ?_;rintro e w' ⟨rfl,arr,rfl,a1,a2,a3⟩))
     refine bodyPost_ret (v:= .tuple #[.pointer (some ⟨_,0,none⟩),.int .i64 s.size]) (by simp[results,Tryz.results33,go_sem];rfl) rfl ?_
     exact itm_err hr2 (Hk.out.trans hk2) a1 a2 a3 (by omega) hp Hst.out
 ·have Hst:=hd (esc_end hx (by omega))
  have hp1:¬(σ.pos:Int)+1<s.size:=by omega
  clear h hS hx h40 h41 h123 hdg
  have hcv:=run_cv
  go_enter Tryz.func33,Tryz.ntmps33
  go_wp2_with (go_at_call 31;refine(starts_b s _ _ σ.pos [92,40] _ _ (by omega) rfl Hsw.out (by omega) (by decide) (by decide) (by omega)).mono ?_;rintro e w' ⟨rfl,rfl⟩)
  have hcell:∀n,n<7->(w'.alloc (.cells #[.int .u8 46,.int .u8 91,.int .u8 93,.int .u8 42,.int .u8 94,.int .u8 36,.int .u8 92] 5 (7,8))).cell? ⟨w'.heap.size,n,none⟩=some (.int .u8 (spv n)):=fun n hn=>by
   rw[Joins.cell_alloc_mark_at _ _ _ _ _ n rfl];exact spCells_at n hn
  have Hr:=hd (Hh.out.alloc (.cells #[.int .u8 46,.int .u8 91,.int .u8 93,.int .u8 42,.int .u8 94,.int .u8 36,.int .u8 92] 5 (7,8)))
  have Hk:=hd ((Rkp.refl w' R P vo).alloc (.cells #[.int .u8 46,.int .u8 91,.int .u8 93,.int .u8 42,.int .u8 94,.int .u8 36,.int .u8 92] 5 (7,8)))
  clear Hh hcv c0
  generalize w'.alloc (.cells #[.int .u8 46,.int .u8 91,.int .u8 93,.int .u8 42,.int .u8 94,.int .u8 36,.int .u8 92] 5 (7,8))=W at*
  generalize w'.heap.size=G at*
  go_loop [11,159] (fun _ k=>∃n:Nat,n<=7/\k= .int .i64 n) (fun _ k=>7-(intOf k).toNat)
  case atStart=>exact⟨0,by omega,rfl⟩
  case round=>
   obtain⟨n,hn7,rfl⟩:=hrel
   by_cases hn:n<7
   ·have hc:=hcell n hn
    clear hcell
    go_wp2
    go_round
    case rel=>exact⟨n+1,by omega,by go_num⟩
    case measure=>simp[intOf];omega
   ·obtain rfl:n=7:=by omega
    go_wp2_with (first
     |(go_at_call 18;refine(wrong_any Hr.out 3 σ.pos _ rfl h0).mono ?_;rintro e w2 ⟨rfl,hr2,hk2⟩)
     |(go_at_call 55;refine(byteItem_any 0 _ (by omega)).mono ?_;rintro e w' ⟨rfl,arr,rfl,a1,a2,a3⟩))
    refine bodyPost_ret (v:= .tuple #[.pointer (some ⟨_,0,none⟩),.int .i64 s.size]) (by simp[results,Tryz.results33,go_sem];rfl) rfl ?_
    exact itm_err hr2 (Hk.out.trans hk2) a1 a2 a3 (by omega) hp Hst.out
end
end Go.Proofs.YtldiemjlpnachaaGreatDoor
