import Derived.Test.YtldiemjlpnachaaGreatDoorRd
import Derived.Test.YtldiemjlpnachaaGreatDoorBrk
set_option maxHeartbeats 3200000
set_option maxRecDepth 100000
namespace Go.Proofs.YtldiemjlpnachaaGreatDoor
open Go.RowKit
theorem set_new(w:World)(o1:Obj)(k:Value)(r9 r10 r11 r12:Value)(t:TypeId):SetAt ((w.alloc o1).alloc (.cells #[k,.int .u32 0,.int .u32 0,.int .u32 0,.int .u32 0,.int .u32 0,.int .u32 0,.int .u32 0,.int .u32 0,r9,r10,r11,r12] t)) (w.heap.size+1) 1:=by
 intro i hi
 refine⟨⟨0,?_⟩,by simp⟩
 rcases(show i=0\/i=1\/i=2\/i=3\/i=4\/i=5\/i=6\/i=7 by omega)with rfl|rfl|rfl|rfl|rfl|rfl|rfl|rfl<;>simp
theorem setis_new(w:World)(o1:Obj)(k:Value)(r9 r10 r11 r12:Value)(t:TypeId):SetIs ((w.alloc o1).alloc (.cells #[k,.int .u32 0,.int .u32 0,.int .u32 0,.int .u32 0,.int .u32 0,.int .u32 0,.int .u32 0,.int .u32 0,r9,r10,r11,r12] t)) (w.heap.size+1) 1 noS:=by
 intro i hi
 refine⟨0,?_,Word.zero i⟩
 rcases(show i=0\/i=1\/i=2\/i=3\/i=4\/i=5\/i=6\/i=7 by omega)with rfl|rfl|rfl|rfl|rfl|rfl|rfl|rfl<;>simp
theorem byte_a{w w2:World}(hs:SetAt w2 (w.heap.size+1) 1)(ho:Only ((w.alloc (.cells #[.int .i64 0,.int .u32 0,.int .u32 0,.int .u32 0,.int .u32 0,.int .u32 0,.int .u32 0,.int .u32 0,.int .u32 0,.int .i64 0,.int .i64 0,.int .i64 0,.slice none 0 0] 119)).alloc (.cells #[.int .i64 0,.int .u32 0,.int .u32 0,.int .u32 0,.int .u32 0,.int .u32 0,.int .u32 0,.int .u32 0,.int .u32 0,.int .i64 0,.int .i64 0,.int .i64 0,.slice none 0 0] 119)) w2 (w.heap.size+1) 1 8):∃a0 a1 a2 a3 a4 a5 a6 a7:Int,w2.cell? ⟨w.heap.size+1,0,none⟩=some (.int .i64 0)/\w2.cell? ⟨w.heap.size+1,1,none⟩=some (.int .u32 a0)/\w2.cell? ⟨w.heap.size+1,2,none⟩=some (.int .u32 a1)/\w2.cell? ⟨w.heap.size+1,3,none⟩=some (.int .u32 a2)/\w2.cell? ⟨w.heap.size+1,4,none⟩=some (.int .u32 a3)/\w2.cell? ⟨w.heap.size+1,5,none⟩=some (.int .u32 a4)/\w2.cell? ⟨w.heap.size+1,6,none⟩=some (.int .u32 a5)/\w2.cell? ⟨w.heap.size+1,7,none⟩=some (.int .u32 a6)/\w2.cell? ⟨w.heap.size+1,8,none⟩=some (.int .u32 a7)/\w2.cell? ⟨w.heap.size+1,9,none⟩=some (.int .i64 0)/\w2.cell? ⟨w.heap.size+1,10,none⟩=some (.int .i64 0)/\w2.cell? ⟨w.heap.size+1,11,none⟩=some (.int .i64 0)/\w2.cell? ⟨w.heap.size+1,12,none⟩=some (.slice none 0 0):=by
 obtain⟨a0,a1,a2,a3,a4,a5,a6,a7,e1,e2,e3,e4,e5,e6,e7,e8⟩:=hs.at1
 refine⟨a0,a1,a2,a3,a4,a5,a6,a7,(ho.cell 0 (by omega)).trans (by simp),e1,e2,e3,e4,e5,e6,e7,e8,(ho.cell 9 (by omega)).trans (by simp),(ho.cell 10 (by omega)).trans (by simp),(ho.cell 11 (by omega)).trans (by simp),(ho.cell 12 (by omega)).trans (by simp)⟩
theorem byte_b{w w2:World}(ho:Only ((w.alloc (.cells #[.int .i64 0,.int .u32 0,.int .u32 0,.int .u32 0,.int .u32 0,.int .u32 0,.int .u32 0,.int .u32 0,.int .u32 0,.int .i64 0,.int .i64 0,.int .i64 0,.slice none 0 0] 119)).alloc (.cells #[.int .i64 0,.int .u32 0,.int .u32 0,.int .u32 0,.int .u32 0,.int .u32 0,.int .u32 0,.int .u32 0,.int .u32 0,.int .i64 0,.int .i64 0,.int .i64 0,.slice none 0 0] 119)) w2 (w.heap.size+1) 1 8):w2.cell? ⟨w.heap.size,0,none⟩=some (.int .i64 0)/\w2.cell? ⟨w.heap.size,1,none⟩=some (.int .u32 0)/\w2.cell? ⟨w.heap.size,2,none⟩=some (.int .u32 0)/\w2.cell? ⟨w.heap.size,3,none⟩=some (.int .u32 0)/\w2.cell? ⟨w.heap.size,4,none⟩=some (.int .u32 0)/\w2.cell? ⟨w.heap.size,5,none⟩=some (.int .u32 0)/\w2.cell? ⟨w.heap.size,6,none⟩=some (.int .u32 0)/\w2.cell? ⟨w.heap.size,7,none⟩=some (.int .u32 0)/\w2.cell? ⟨w.heap.size,8,none⟩=some (.int .u32 0)/\w2.cell? ⟨w.heap.size,9,none⟩=some (.int .i64 0)/\w2.cell? ⟨w.heap.size,10,none⟩=some (.int .i64 0)/\w2.cell? ⟨w.heap.size,11,none⟩=some (.int .i64 0)/\w2.cell? ⟨w.heap.size,12,none⟩=some (.slice none 0 0):=by
 have e:∀i,w2.cell? ⟨w.heap.size,i,none⟩=((w.alloc (.cells #[.int .i64 0,.int .u32 0,.int .u32 0,.int .u32 0,.int .u32 0,.int .u32 0,.int .u32 0,.int .u32 0,.int .u32 0,.int .i64 0,.int .i64 0,.int .i64 0,.slice none 0 0] 119)).alloc (.cells #[.int .i64 0,.int .u32 0,.int .u32 0,.int .u32 0,.int .u32 0,.int .u32 0,.int .u32 0,.int .u32 0,.int .u32 0,.int .i64 0,.int .i64 0,.int .i64 0,.slice none 0 0] 119)).cell? ⟨w.heap.size,i,none⟩:=fun i=>ho.far ⟨w.heap.size,i,none⟩ (by simp)
 refine⟨(e 0).trans (by simp),(e 1).trans (by simp),(e 2).trans (by simp),(e 3).trans (by simp),(e 4).trans (by simp),(e 5).trans (by simp),(e 6).trans (by simp),(e 7).trans (by simp),(e 8).trans (by simp),(e 9).trans (by simp),(e 10).trans (by simp),(e 11).trans (by simp),(e 12).trans (by simp)⟩
theorem byte_c{w w2:World}(ho:Only ((w.alloc (.cells #[.int .i64 0,.int .u32 0,.int .u32 0,.int .u32 0,.int .u32 0,.int .u32 0,.int .u32 0,.int .u32 0,.int .u32 0,.int .i64 0,.int .i64 0,.int .i64 0,.slice none 0 0] 119)).alloc (.cells #[.int .i64 0,.int .u32 0,.int .u32 0,.int .u32 0,.int .u32 0,.int .u32 0,.int .u32 0,.int .u32 0,.int .u32 0,.int .i64 0,.int .i64 0,.int .i64 0,.slice none 0 0] 119)) w2 (w.heap.size+1) 1 8):w2.frozen? ⟨w.heap.size,0,none⟩=false/\w2.frozen? ⟨w.heap.size,1,none⟩=false/\w2.frozen? ⟨w.heap.size,2,none⟩=false/\w2.frozen? ⟨w.heap.size,3,none⟩=false/\w2.frozen? ⟨w.heap.size,4,none⟩=false/\w2.frozen? ⟨w.heap.size,5,none⟩=false/\w2.frozen? ⟨w.heap.size,6,none⟩=false/\w2.frozen? ⟨w.heap.size,7,none⟩=false/\w2.frozen? ⟨w.heap.size,8,none⟩=false/\w2.frozen? ⟨w.heap.size,9,none⟩=false/\w2.frozen? ⟨w.heap.size,10,none⟩=false/\w2.frozen? ⟨w.heap.size,11,none⟩=false/\w2.frozen? ⟨w.heap.size,12,none⟩=false:=by
 have e:∀i,w2.frozen? ⟨w.heap.size,i,none⟩=((w.alloc (.cells #[.int .i64 0,.int .u32 0,.int .u32 0,.int .u32 0,.int .u32 0,.int .u32 0,.int .u32 0,.int .u32 0,.int .u32 0,.int .i64 0,.int .i64 0,.int .i64 0,.slice none 0 0] 119)).alloc (.cells #[.int .i64 0,.int .u32 0,.int .u32 0,.int .u32 0,.int .u32 0,.int .u32 0,.int .u32 0,.int .u32 0,.int .u32 0,.int .i64 0,.int .i64 0,.int .i64 0,.slice none 0 0] 119)).frozen? ⟨w.heap.size,i,none⟩:=fun i=>ho.far_frozen ⟨w.heap.size,i,none⟩ (by simp)
 refine⟨(e 0).trans (by simp),(e 1).trans (by simp),(e 2).trans (by simp),(e 3).trans (by simp),(e 4).trans (by simp),(e 5).trans (by simp),(e 6).trans (by simp),(e 7).trans (by simp),(e 8).trans (by simp),(e 9).trans (by simp),(e 10).trans (by simp),(e 11).trans (by simp),(e 12).trans (by simp)⟩
theorem byte_d{w w2:World}(ho:Only ((w.alloc (.cells #[.int .i64 0,.int .u32 0,.int .u32 0,.int .u32 0,.int .u32 0,.int .u32 0,.int .u32 0,.int .u32 0,.int .u32 0,.int .i64 0,.int .i64 0,.int .i64 0,.slice none 0 0] 119)).alloc (.cells #[.int .i64 0,.int .u32 0,.int .u32 0,.int .u32 0,.int .u32 0,.int .u32 0,.int .u32 0,.int .u32 0,.int .u32 0,.int .i64 0,.int .i64 0,.int .i64 0,.slice none 0 0] 119)) w2 (w.heap.size+1) 1 8):Below w.heap.size w w2:=
 (((Below.refl _ _).alloc (Nat.le_refl _) _).alloc (by simp) _).trans (ho.below (by omega))
theorem below_sets{w:World}{B:Nat}(b:Nat)(hb:B<=b):∀(vs:List Value) (o:Nat) (wr:World),Below B w wr->Below B w (wr.setCells b o vs)
 | [],_,_,h=>h
 |u::r,o,_,h=>below_sets b hb r (o+1) _ (h.setCell (by exact hb) u)
theorem chain0(w:World)(g:Nat)(u0 u1 u2 u3 u4 u5 u6 u7 u8 u9 u10 u11 u12:Value):(((((((((((((w.setCell ⟨g,0,none⟩ u0).setCell ⟨g,1,none⟩ u1).setCell ⟨g,2,none⟩ u2).setCell ⟨g,3,none⟩ u3).setCell ⟨g,4,none⟩ u4).setCell ⟨g,5,none⟩ u5).setCell ⟨g,6,none⟩ u6).setCell ⟨g,7,none⟩ u7).setCell ⟨g,8,none⟩ u8).setCell ⟨g,9,none⟩ u9).setCell ⟨g,10,none⟩ u10).setCell ⟨g,11,none⟩ u11).setCell ⟨g,12,none⟩ u12)=w.setCells g 0 [u0,u1,u2,u3,u4,u5,u6,u7,u8,u9,u10,u11,u12]:=rfl
theorem oneByte_any(c:Int)(w:World)(hc0:0<=c)(hc1:c<=255):
  Calls Tryz.prog 44 #[.int .u8 c] w fun e w'=>∃a0 a1 a2 a3 a4 a5 a6 a7:Int,e= .returned (.agg #[.int .i64 0,.int .u32 a0,.int .u32 a1,.int .u32 a2,.int .u32 a3,.int .u32 a4,.int .u32 a5,.int .u32 a6,.int .u32 a7,.int .i64 0,.int .i64 0,.int .i64 0,.slice none 0 0])/\W8 a0 a1 a2 a3 a4 a5 a6 a7 (addS noS c.toNat)/\Below w.heap.size w w':=by
 go_enter Tryz.func44,Tryz.ntmps44
 go_wp2_with fail
 refine(add_any (w.heap.size+1) 1 _ _ hc0 hc1 (by exact set_new w _ _ _ _ _ _ _)).mono ?_
 rintro e w2 ⟨rfl,hs2,ho2⟩
 obtain⟨a0,a1,a2,a3,a4,a5,a6,a7,e0,e1,e2,e3,e4,e5,e6,e7,e8,e9,e10,e11,e12⟩:=byte_a hs2.1 ho2
 have H8:=hd ((hs2.2 _ (setis_new w _ _ _ _ _ _ _)).w8_1 e1 e2 e3 e4 e5 e6 e7 e8)
 obtain⟨x0,x1,x2,x3,x4,x5,x6,x7,x8,x9,x10,x11,x12⟩:=byte_b ho2
 obtain⟨v0,v1,v2,v3,v4,v5,v6,v7,v8,v9,v10,v11,v12⟩:=byte_c ho2
 have Hb:=hd (byte_d ho2)
 clear hs2 ho2
 generalize hB:w.heap.size=B at*
 have HB:=hd hB
 clear hB
 go_wp2
 refine bodyPost_ret (v:= .agg #[.int .i64 0,.int .u32 a0,.int .u32 a1,.int .u32 a2,.int .u32 a3,.int .u32 a4,.int .u32 a5,.int .u32 a6,.int .u32 a7,.int .i64 0,.int .i64 0,.int .i64 0,.slice none 0 0]) (by simp[results,Tryz.results44,go_sem,x0,x1,x2,x3,x4,x5,x6,x7,x8,x9,x10,x11,x12]) rfl ⟨a0,a1,a2,a3,a4,a5,a6,a7,rfl,H8.out,?_⟩
 rw[chain0,HB.out]
 exact below_sets B (Nat.le_refl _) _ _ _ Hb.out
theorem anyByte_any(w:World):
  Calls Tryz.prog 40 #[] w fun e w'=>∃a0 a1 a2 a3 a4 a5 a6 a7:Int,e= .returned (.agg #[.int .i64 0,.int .u32 a0,.int .u32 a1,.int .u32 a2,.int .u32 a3,.int .u32 a4,.int .u32 a5,.int .u32 a6,.int .u32 a7,.int .i64 0,.int .i64 0,.int .i64 0,.slice none 0 0])/\W8 a0 a1 a2 a3 a4 a5 a6 a7 (addR noS 0 255)/\Below w.heap.size w w':=by
 go_enter Tryz.func40,Tryz.ntmps40
 go_wp2_with fail
 refine(addRange_any (w.heap.size+1) 1 _ _ _ (by decide) (by decide) (by decide) (by decide) (by exact set_new w _ _ _ _ _ _ _)).mono ?_
 rintro e w2 ⟨rfl,hs2,ho2⟩
 obtain⟨a0,a1,a2,a3,a4,a5,a6,a7,e0,e1,e2,e3,e4,e5,e6,e7,e8,e9,e10,e11,e12⟩:=byte_a hs2.1 ho2
 have H8:=hd ((hs2.2 _ (setis_new w _ _ _ _ _ _ _)).w8_1 e1 e2 e3 e4 e5 e6 e7 e8)
 obtain⟨x0,x1,x2,x3,x4,x5,x6,x7,x8,x9,x10,x11,x12⟩:=byte_b ho2
 obtain⟨v0,v1,v2,v3,v4,v5,v6,v7,v8,v9,v10,v11,v12⟩:=byte_c ho2
 have Hb:=hd (byte_d ho2)
 clear hs2 ho2
 generalize hB:w.heap.size=B at*
 have HB:=hd hB
 clear hB
 go_wp2
 refine bodyPost_ret (v:= .agg #[.int .i64 0,.int .u32 a0,.int .u32 a1,.int .u32 a2,.int .u32 a3,.int .u32 a4,.int .u32 a5,.int .u32 a6,.int .u32 a7,.int .i64 0,.int .i64 0,.int .i64 0,.slice none 0 0]) (by simp[results,Tryz.results40,go_sem,x0,x1,x2,x3,x4,x5,x6,x7,x8,x9,x10,x11,x12]) rfl ⟨a0,a1,a2,a3,a4,a5,a6,a7,rfl,H8.out,?_⟩
 rw[chain0,HB.out]
 exact below_sets B (Nat.le_refl _) _ _ _ Hb.out
end Go.Proofs.YtldiemjlpnachaaGreatDoor
namespace Go.Proofs.YtldiemjlpnachaaGreatDoor
open Go.RowKit
attribute [local go_sem ↓] Go.wp_at_zero Go.wp_at_succ
theorem info_row:(Tryz.prog.info? 80).map (fun i=>(i.zero,i.size,i.bytes))=some (some (.agg #[.int .i64 0,.int .i64 0,.slice none 0 0]),3,40):=by kernel_rfl
theorem Rd.below{w w':World}{base R:Nat}{s:ByteArray}{H:Fins}{σ:St}(h:Rd w base R s H σ)(hb:Below w.heap.size w w'):Rd w' base R s H σ:=by
 have hR:=h.hR
 have hbs:=h.hb
 have cl:∀i,w'.cell? ⟨R,i,none⟩=w.cell? ⟨R,i,none⟩:=fun i=>hb.cell (by show R<_;omega)
 obtain⟨vi,vo,rs,h4,h5,hlive,ho,hout,hap⟩:=h.rows
 obtain⟨cs,hcs,hown⟩:=hlive
 refine⟨hR,Nat.le_trans hbs hb.size,(cl 0).trans h.c0,(cl 1).trans h.c1,(cl 2).trans h.c2,(cl 3).trans h.c3,(cl 6).trans h.c6,fun i hi=>(cl _).trans (h.c7 i hi),h.rf.below hb,
  fun i hi=>(hb.frozen (by show R<_;omega)).trans (h.fz i hi),fun g arr hg=>(hb.block g (h.fin.lt hg)).trans (h.fin g arr hg),h.finb,
  vi,vo,rs,(cl 4).trans h4,(cl 5).trans h5,⟨cs,hcs,owns_same hown (fun k hk=>hb.block k (hown.lt k hk).2)⟩,owns_same ho (fun k hk=>hb.block k (ho.lt k hk).2),hout.same (fun v hv k hk=>hb.block k (hout.lt v hv k hk).2),hap⟩
def OMid(w w':World)(R base:Nat)(v:Value)(n:Nat)(xs cs:List Value)(pos gr:Int):Prop:=
 ∃g cap,w'.cell? ⟨R,5,none⟩=some (.slice (some ⟨g,0,none⟩) (n+1) cap)/\w'.cell? ⟨R,1,none⟩=some (.int .i64 pos)/\w'.cell? ⟨R,6,none⟩=some (.int .i64 gr)/\w'.ownsRow base 80 3 (.slice (some ⟨g,0,none⟩) (n+1) cap) (n+1) (xs++cs)/\
  (v.ownBlock=some g\/w.heap.size<=g)/\g<w'.heap.size/\g≠R/\Ch w w' R v.ownBlock [1,2,3,4,5,6]/\(∃u,w'.cell? ⟨R,2,none⟩=some u)/\(∃u,w'.cell? ⟨R,3,none⟩=some u)/\(∃u,w'.cell? ⟨R,4,none⟩=some u)
theorem omid{w w1:World}{R base g n cap:Nat}{v r5:Value}{xs cs:List Value}{o1:Obj}{x6:Value}(pos gr:Int)(hR:R<base)(hbase:base<=w.heap.size)(ag:v.ownBlock≠some R)
  (hown1:w1.ownsRow base 80 3 (.slice (some ⟨g,0,none⟩) (n+1) cap) (n+1) (xs++cs))(hgrow:((w.setCell ⟨R,6,none⟩ x6).alloc o1).drew.grownBy w1 v.ownBlock)(hat:v.ownBlock=some g\/g=w.heap.size+1)(hlt:g<w1.heap.size)
  (h1:w1.cell? ⟨R,1,none⟩=some (.int .i64 pos))(h5:w1.cell? ⟨R,5,none⟩=some r5)(h6:w1.cell? ⟨R,6,none⟩=some (.int .i64 gr)){y2 y3 y4:Value}(k2:w1.cell? ⟨R,2,none⟩=some y2)(k3:w1.cell? ⟨R,3,none⟩=some y3)(k4:w1.cell? ⟨R,4,none⟩=some y4):
  OMid w (w1.setCell ⟨R,5,none⟩ (.slice (some ⟨g,0,none⟩) (n+1) cap)) R base v n xs cs pos gr:=by
 have hg:g≠R:=by
  have:=(owns_cells hown1).choose_spec.1
  omega
 have hat':v.ownBlock=some g\/w.heap.size<=g:=by
  rcases hat with h|h
  ·exact .inl h
  ·right;omega
 have hch:Ch w w1 R v.ownBlock [1,2,3,4,5,6]:=((((Ch.refl w R v.ownBlock [1,2,3,4,5,6]).put 6 (by simp) x6).alloc (by omega) o1).drew).grown hgrow (by omega) ag
 exact⟨g,cap,World.cell?_setCell_same _ _ _ h5,by rw[World.cell?_setCell_other _ _ _ _ (by simp)];exact h1,by rw[World.cell?_setCell_other _ _ _ _ (by simp)];exact h6,ownsRow_setCell_other hown1 (by simp[Value.ownBlock];exact hg) _,hat',by simp[World.setCell];exact hlt,hg,hch.put 5 (by simp) _,⟨y2,by rw[World.cell?_setCell_other _ _ _ _ (by simp)];exact k2⟩,⟨y3,by rw[World.cell?_setCell_other _ _ _ _ (by simp)];exact k3⟩,⟨y4,by rw[World.cell?_setCell_other _ _ _ _ (by simp)];exact k4⟩⟩
theorem heap_one(w:World)(a:Addr)(v:Value)(o:Obj):((w.setCell a v).alloc o).drew.heap[w.heap.size]?=some o:=by
 have h:=heap_alloc_new (w.setCell a v) o
 rw[show(w.setCell a v).heap.size=w.heap.size by simp[World.setCell]]at h
 exact h
theorem open_pre{w w1:World}{R:Nat}{v x6:Value}{o1:Obj}(hgrow:((w.setCell ⟨R,6,none⟩ x6).alloc o1).drew.grownBy w1 v.ownBlock)(lR:R<w.heap.size)(ag:v.ownBlock≠some R)(i:Nat):w1.cell? ⟨R,i,none⟩=(w.setCell ⟨R,6,none⟩ x6).cell? ⟨R,i,none⟩/\w1.frozen? ⟨R,i,none⟩=w.frozen? ⟨R,i,none⟩:=by
 have hsz:(w.setCell ⟨R,6,none⟩ x6).heap.size=w.heap.size:=by simp[World.setCell]
 constructor
 ·rw[hgrow.cell_far _ (by simp[World.setCell];omega) (Ne.symm ag)]
  exact World.cell?_alloc_lt _ _ _ (by rw[hsz];exact lR)
 ·rw[hgrow.frozen_far _ (by simp[World.setCell];omega) (Ne.symm ag)]
  exact(World.frozen?_alloc_old _ _ _ (by rw[hsz];show R≠_;omega)).trans (World.frozen?_setCell _ _ _ _)
theorem openGroup_walk(R n cp base num st pos gr:Nat)(ao:Option Addr)(ia:Option Addr)(il ic:Nat)(xs:List Value)(w:World)
    (h1:w.cell? ⟨R,1,none⟩=some (.int .i64 pos))(h2:w.cell? ⟨R,2,none⟩=some (.int .i64 num))(h3:w.cell? ⟨R,3,none⟩=some (.int .i64 st))(h4:w.cell? ⟨R,4,none⟩=some (.slice ia il ic))(h5:w.cell? ⟨R,5,none⟩=some (.slice ao n cp))(h6:w.cell? ⟨R,6,none⟩=some (.int .i64 gr))
    (fz:∀i,i<18->w.frozen? ⟨R,i,none⟩=false)(hp:pos<=1000)(hgr:gr<9)(hown:w.ownsRow base 80 3 (.slice ao n cp) n xs)(hbase:base<=w.heap.size)(hn:n<=1000)(hR:R<base):
    Calls Tryz.prog 58 #[.pointer (some ⟨R,0,none⟩)] w fun e w'=>e= .returned (.int .i64 0)/\
      ∃W,OMid w W R base (.slice ao n cp) n xs [.int .i64 num,.int .i64 st,.slice ia il ic] pos ((gr:Int)+1)/\w'=((((W.setCell ⟨R,2,none⟩ (.int .i64 ((gr:Int)+1))).setCell ⟨R,3,none⟩ (.int .i64 pos)).setCell ⟨R,4,none⟩ (.slice none 0 0)).setCell ⟨R,1,none⟩ (.int .i64 ((pos:Int)+2))).drew:=by
  obtain⟨i0,hi0,hz0,hz1,hz2⟩:=info_parts info_row
  have lR:=World.block_lt_of_cell? w _ h1
  have ag:(Value.slice ao n cp).ownBlock≠some R:=by
    intro e
    have:=(hown.lt R e).1
    omega
  have f1:=fz 1 (by omega)
  have f2:=fz 2 (by omega)
  have f3:=fz 3 (by omega)
  have f4:=fz 4 (by omega)
  have f5:=fz 5 (by omega)
  have f6:=fz 6 (by omega)
  have Hfz:=hd fz
  clear fz
  go_enter Tryz.func58,Tryz.ntmps58
  go_wp2_with fail
  have hown6:(w.setCell ⟨R,6,none⟩ (.int .i64 ((gr:Int)+1))).ownsRow base 80 3 (.slice ao n cp) n xs:=ownsRow_setCell_other hown (by simpa using ag) _
  go_region_law
    ((refine step_append_lies _ (by rfl) _ _ _ (by rfl) base 80 i0 _ 3 40 Tryz.underlying81 hi0 hz0 hz1 hz2 rfl (by omega) (.slice ao n cp) n xs (by rfl) ((hown6.alloc _).drew)
        ⟨w.heap.size,0,none⟩ 1 1 [.int .i64 num,.int .i64 st,.slice ia il ic] (by rfl) (by rfl) (World.news_of_block (cs:= #[.int .i64 num,.int .i64 st,.slice ia il ic]) (t:=80) (fr:=(0,0)) (heap_one w _ _ _)) (by simp[Value.oneCell'])
        (by omega) (by unfold maxLen;omega) (by omega) (by simp[World.setCell];omega) (w.heap.size+1) (by simp[World.setCell]) ?_;intro g cap w1 hown1 hgrow hat hlt;have r1:w1.cell? ⟨R,1,none⟩=some (.int .i64 pos):=(open_pre hgrow lR ag 1).1.trans (by rw[World.cell?_setCell_other _ _ _ _ (by simp)];exact h1);have r5:w1.cell? ⟨R,5,none⟩=some (.slice ao n cp):=(open_pre hgrow lR ag 5).1.trans (by rw[World.cell?_setCell_other _ _ _ _ (by simp)];exact h5);have r6:w1.cell? ⟨R,6,none⟩=some (.int .i64 ((gr:Int)+1)):=(open_pre hgrow lR ag 6).1.trans (World.cell?_setCell_same _ _ _ h6);have rf5:w1.frozen? ⟨R,5,none⟩=false:=(open_pre hgrow lR ag 5).2.trans f5))
  all_goals
    have s2:w1.cell? ⟨R,2,none⟩=some (.int .i64 num):=by rw[(open_pre hgrow lR ag 2).1,World.cell?_setCell_other _ _ _ _ (by simp)];exact h2
    have s3:w1.cell? ⟨R,3,none⟩=some (.int .i64 st):=by rw[(open_pre hgrow lR ag 3).1,World.cell?_setCell_other _ _ _ _ (by simp)];exact h3
    have s4:w1.cell? ⟨R,4,none⟩=some (.slice ia il ic):=by rw[(open_pre hgrow lR ag 4).1,World.cell?_setCell_other _ _ _ _ (by simp)];exact h4
    have hM:=omid (w:=w) pos ((gr:Int)+1) hR hbase ag hown1 hgrow hat hlt r1 r5 r6 s2 s3 s4
    have rc2:(w1.setCell ⟨R,5,none⟩ (.slice (some ⟨g,0,none⟩) (n+1) cap)).cell? ⟨R,2,none⟩=some (.int .i64 num):=by rw[World.cell?_setCell_other _ _ _ _ (by simp)];exact s2
    have rc3:(w1.setCell ⟨R,5,none⟩ (.slice (some ⟨g,0,none⟩) (n+1) cap)).cell? ⟨R,3,none⟩=some (.int .i64 st):=by rw[World.cell?_setCell_other _ _ _ _ (by simp)];exact s3
    have rc4:(w1.setCell ⟨R,5,none⟩ (.slice (some ⟨g,0,none⟩) (n+1) cap)).cell? ⟨R,4,none⟩=some (.slice ia il ic):=by rw[World.cell?_setCell_other _ _ _ _ (by simp)];exact s4
    have rf:∀i,i<18->(w1.setCell ⟨R,5,none⟩ (.slice (some ⟨g,0,none⟩) (n+1) cap)).frozen? ⟨R,i,none⟩=false:=fun i hi=>by rw[World.frozen?_setCell,(open_pre hgrow lR ag i).2];exact Hfz.out i hi
    clear hown1 hgrow hat hlt r1 r5 r6 rf5 s2 s3 s4
    generalize w1.setCell ⟨R,5,none⟩ (.slice (some ⟨g,0,none⟩) (n+1) cap)=W at hM rc2 rc3 rc4 rf ⊢
    have rc1:W.cell? ⟨R,1,none⟩=some (.int .i64 pos):=by obtain⟨_,_,_,h,_⟩:=hM;exact h
    have rc6:W.cell? ⟨R,6,none⟩=some (.int .i64 ((gr:Int)+1)):=by obtain⟨_,_,_,_,h,_⟩:=hM;exact h
    have rf1:=rf 1 (by omega)
    have rf2:=rf 2 (by omega)
    have rf3:=rf 3 (by omega)
    have rf4:=rf 4 (by omega)
    have HM:=hd hM
    clear hM rf h1 h2 h3 h4 h5 h6 f1 f2 f3 f4 f5 f6 hown hown6
    go_wp2
  all_goals go_region
  all_goals
    go_wp2
    go_ret
    exact⟨rfl,W,HM.out,rfl⟩
theorem set4{W:World}{R:Nat}(x1 x2 x3 x4:Value)(h1:∃u,W.cell? ⟨R,1,none⟩=some u)(h2:∃u,W.cell? ⟨R,2,none⟩=some u)(h3:∃u,W.cell? ⟨R,3,none⟩=some u)(h4:∃u,W.cell? ⟨R,4,none⟩=some u):
  ((((W.setCell ⟨R,2,none⟩ x2).setCell ⟨R,3,none⟩ x3).setCell ⟨R,4,none⟩ x4).setCell ⟨R,1,none⟩ x1).cell? ⟨R,1,none⟩=some x1/\((((W.setCell ⟨R,2,none⟩ x2).setCell ⟨R,3,none⟩ x3).setCell ⟨R,4,none⟩ x4).setCell ⟨R,1,none⟩ x1).cell? ⟨R,2,none⟩=some x2/\
  ((((W.setCell ⟨R,2,none⟩ x2).setCell ⟨R,3,none⟩ x3).setCell ⟨R,4,none⟩ x4).setCell ⟨R,1,none⟩ x1).cell? ⟨R,3,none⟩=some x3/\((((W.setCell ⟨R,2,none⟩ x2).setCell ⟨R,3,none⟩ x3).setCell ⟨R,4,none⟩ x4).setCell ⟨R,1,none⟩ x1).cell? ⟨R,4,none⟩=some x4/\
  ∀i,i≠1->i≠2->i≠3->i≠4->((((W.setCell ⟨R,2,none⟩ x2).setCell ⟨R,3,none⟩ x3).setCell ⟨R,4,none⟩ x4).setCell ⟨R,1,none⟩ x1).cell? ⟨R,i,none⟩=W.cell? ⟨R,i,none⟩:=by
 obtain⟨u1,h1⟩:=h1
 obtain⟨u2,h2⟩:=h2
 obtain⟨u3,h3⟩:=h3
 obtain⟨u4,h4⟩:=h4
 have ne:∀(V:World) (i j:Nat) (x:Value),i≠j->(V.setCell ⟨R,i,none⟩ x).cell? ⟨R,j,none⟩=V.cell? ⟨R,j,none⟩:=fun V i j x h=>World.cell?_setCell_other _ _ _ _ (by rintro e;cases e;exact h rfl)
 refine⟨World.cell?_setCell_same _ _ _ (u:=u1) ?_,?_,?_,?_,?_⟩
 ·rw[ne _ _ _ _ (by omega),ne _ _ _ _ (by omega),ne _ _ _ _ (by omega)];exact h1
 ·rw[ne _ _ _ _ (by omega),ne _ _ _ _ (by omega),ne _ _ _ _ (by omega)];exact World.cell?_setCell_same _ _ _ h2
 ·rw[ne _ _ _ _ (by omega),ne _ _ _ _ (by omega)];exact World.cell?_setCell_same _ _ _ (u:=u3) (by rw[ne _ _ _ _ (by omega)];exact h3)
 ·rw[ne _ _ _ _ (by omega)];exact World.cell?_setCell_same _ _ _ (u:=u4) (by rw[ne _ _ _ _ (by omega),ne _ _ _ _ (by omega)];exact h4)
 ·intro i i1 i2 i3 i4
  rw[ne _ _ _ _ (by omega),ne _ _ _ _ (by omega),ne _ _ _ _ (by omega),ne _ _ _ _ (by omega)]
theorem Rd.opened{w W:World}{base R:Nat}{s:ByteArray}{H:Fins}{σ:St}{vi vo:Value}{rs:List Value}
  (h:Rd w base R s H σ)(hlive:Live w base H vi σ.inner.items)(ho:w.ownsRow base 80 3 vo σ.outer.length (outCells σ.outer rs))(hout:OutOk w base H rs σ.outer)(hap:Apart H (vi::vo::rs))
  (hM:OMid w W R base vo σ.outer.length (outCells σ.outer rs) [.int .i64 σ.inner.number,.int .i64 σ.inner.start,vi] σ.pos ((σ.groups:Int)+1)):
  Rd ((((W.setCell ⟨R,2,none⟩ (.int .i64 ((σ.groups:Int)+1))).setCell ⟨R,3,none⟩ (.int .i64 σ.pos)).setCell ⟨R,4,none⟩ (.slice none 0 0)).setCell ⟨R,1,none⟩ (.int .i64 ((σ.pos:Int)+2))).drew base R s H
    {σ with pos:=σ.pos+2,inner:=⟨σ.groups+1,σ.pos,[]⟩,outer:=σ.outer++ [σ.inner],groups:=σ.groups+1}/\
   Below R w ((((W.setCell ⟨R,2,none⟩ (.int .i64 ((σ.groups:Int)+1))).setCell ⟨R,3,none⟩ (.int .i64 σ.pos)).setCell ⟨R,4,none⟩ (.slice none 0 0)).setCell ⟨R,1,none⟩ (.int .i64 ((σ.pos:Int)+2))).drew:=by
 obtain⟨g,cap,e5,e1,e6,hown,hat,hlt,hgR,hch,x2,x3,x4⟩:=hM
 have hR:=h.hR
 have hb:=h.hb
 obtain⟨m1,m2,m3,m4,mm⟩:=set4 (.int .i64 ((σ.pos:Int)+2)) (.int .i64 ((σ.groups:Int)+1)) (.int .i64 σ.pos) (.slice none 0 0) ⟨_,e1⟩ x2 x3 x4
 have hch':=(((hch.put 2 (by simp) (.int .i64 ((σ.groups:Int)+1))).put 3 (by simp) (.int .i64 σ.pos)).put 4 (by simp) (.slice none 0 0)).put 1 (by simp) (.int .i64 ((σ.pos:Int)+2))
 have hown':((((W.setCell ⟨R,2,none⟩ (.int .i64 ((σ.groups:Int)+1))).setCell ⟨R,3,none⟩ (.int .i64 σ.pos)).setCell ⟨R,4,none⟩ (.slice none 0 0)).setCell ⟨R,1,none⟩ (.int .i64 ((σ.pos:Int)+2))).ownsRow base 80 3 (.slice (some ⟨g,0,none⟩) (σ.outer.length+1) cap) (σ.outer.length+1) (outCells σ.outer rs++ [.int .i64 σ.inner.number,.int .i64 σ.inner.start,vi]):=by
  have hne:∀i,(Value.slice (some ⟨g,0,none⟩) (σ.outer.length+1) cap).ownBlock≠some (⟨R,i,none⟩:Addr).block:=by intro i;simp[Value.ownBlock];exact hgR
  exact ownsRow_setCell_other (ownsRow_setCell_other (ownsRow_setCell_other (ownsRow_setCell_other hown (hne 2) _) (hne 3) _) (hne 4) _) (hne 1) _
 generalize (((W.setCell ⟨R,2,none⟩ (.int .i64 ((σ.groups:Int)+1))).setCell ⟨R,3,none⟩ (.int .i64 σ.pos)).setCell ⟨R,4,none⟩ (.slice none 0 0)).setCell ⟨R,1,none⟩ (.int .i64 ((σ.pos:Int)+2))=W' at*
 obtain⟨lcs,hlcs,hlown⟩:=hlive
 have others:∀v∈vi::rs,∀k,v.ownBlock=some k->base<=k/\k<w.heap.size:=by
  intro v hv k hk
  rcases List.mem_cons.1 hv with rfl|hv
  ·exact hlown.lt k hk
  ·exact hout.lt v hv k hk
 have hperm:∀v∈vi::rs,∀k,v.ownBlock=some k->some k≠vo.ownBlock:=by
  intro v hv k hk e
  have hn:=hap.1
  rcases List.mem_cons.1 hv with rfl|hv
  ·rw[List.filterMap_cons,hk]at hn
   exact(List.nodup_cons.1 hn).1 (mem_blocks (v:=vo) (by simp) e.symm)
  ·have hn2:((vo::rs).filterMap Value.ownBlock).Nodup:=by
    rw[List.filterMap_cons]at hn
    split at hn
    ·exact hn
    ·exact(List.nodup_cons.1 hn).2
   rw[List.filterMap_cons,<-e]at hn2
   exact(List.nodup_cons.1 hn2).1 (mem_blocks hv hk)
 have blk:∀v∈vi::rs,∀k,v.ownBlock=some k->W'.heap[k]?=w.heap[k]?:=by
  intro v hv k hk
  have:=others v hv k hk
  exact hch'.block k this.2 (by omega) (hperm v hv k hk)
 have hfb:∀k arr,H k=some arr->some k≠vo.ownBlock:=by
  intro k arr hk e
  have:=hap.2 k (mem_blocks (v:=vo) (by simp) e.symm)
  rw[this]at hk
  cases hk
 have cl:∀i,i≠1->i≠2->i≠3->i≠4->i≠5->i≠6->W'.cell? ⟨R,i,none⟩=w.cell? ⟨R,i,none⟩:=fun i a1 a2 a3 a4 a5 a6=>hch'.cell i (by simp;omega)
 refine⟨⟨hR,Nat.le_trans hb hch'.size,(cl 0 (by omega) (by omega) (by omega) (by omega) (by omega) (by omega)).trans h.c0,?_,?_,m3,?_,fun i hi=>(cl _ (by omega) (by omega) (by omega) (by omega) (by omega) (by omega)).trans (h.c7 i hi),(h.rf.ch hch' (by simp) hR (fun k hk=>by obtain⟨cur,hc⟩:=owns_typ ho hk;exact⟨cur,_,hc,by decide⟩)).drew,fun i hi=>(hch'.frozen i).trans (h.fz i hi),fun k arr hk=>?_,h.finb,?_⟩,(hch'.below (by omega) (fun k hk=>by have:=(ho.lt k hk).1;omega)).drew⟩
 ·simpa using m1
 ·simpa using m2
 ·have:=(mm 6 (by omega) (by omega) (by omega) (by omega)).trans e6
  simpa using this
 ·show W'.heap[k]?=_
  rw[hch'.block k (h.fin.lt hk) (by have:=h.finb k arr hk;omega) (hfb k arr hk)]
  exact h.fin k arr hk
 ·refine⟨.slice none 0 0,.slice (some ⟨g,0,none⟩) (σ.outer.length+1) cap,rs++ [vi],m4,(mm 5 (by omega) (by omega) (by omega) (by omega)).trans e5,⟨[],trivial,World.ownsRow_nil _ _ _ _⟩,?_,?_,?_⟩
  ·rw[outCells_snoc hout.length]
   simp only[List.length_append,List.length_singleton]
   exact hown'.drew
  ·exact OutOk.same (w:=W') (OutOk.snoc (r:=σ.inner) ⟨lcs,hlcs,owns_same hlown (blk vi (by simp))⟩ (hout.same (fun v hv=>blk v (by simp[hv])))) (fun _ _ _ _=>rfl)
  ·have hrest:((vi::rs).filterMap Value.ownBlock).Nodup/\∀b∈(vi::rs).filterMap Value.ownBlock,H b=none/\b<w.heap.size/\some b≠vo.ownBlock:=by
    refine⟨?_,fun b hb'=>?_⟩
    ·have hn:=hap.1
     rw[List.filterMap_cons]at hn ⊢
     split at hn
     ·rw[List.filterMap_cons]at hn
      split at hn
      ·exact hn
      ·exact(List.nodup_cons.1 hn).2
     ·have hn1:=List.nodup_cons.1 hn
      rw[List.filterMap_cons]at hn1
      split at hn1
      ·exact List.nodup_cons.2 hn1
      ·exact List.nodup_cons.2 ⟨fun hm=>hn1.1 (List.mem_cons_of_mem _ hm),(List.nodup_cons.1 hn1.2).2⟩
    ·obtain⟨v,hv,hk⟩:=List.mem_filterMap.1 hb'
     refine⟨hap.2 b (mem_blocks (v:=v) ?_ hk),(others v hv b hk).2,hperm v hv b hk⟩
     rcases List.mem_cons.1 hv with rfl|hv
     ·simp
     ·simp[hv]
   have hgn:g ∉ (vi::rs).filterMap Value.ownBlock/\H g=none:=by
    rcases hat with hat|hat
    ·exact⟨fun hm=>(hrest.2 g hm).2.2 hat.symm,hap.2 g (mem_blocks (v:=vo) (by simp) hat)⟩
    ·exact⟨fun hm=>by have:=(hrest.2 g hm).2.1;omega,h.fin.none hat⟩
   have hpm:(rs++ [vi]).Perm (vi::rs):=List.perm_append_singleton vi rs
   have hp2:=hpm.filterMap Value.ownBlock
   refine⟨?_,?_⟩
   ·show((.slice (some ⟨g,0,none⟩) (σ.outer.length+1) cap::(rs++ [vi])).filterMap Value.ownBlock).Nodup
    rw[List.filterMap_cons]
    exact List.nodup_cons.2 ⟨fun hm=>hgn.1 (hp2.mem_iff.1 hm),hp2.nodup_iff.2 hrest.1⟩
   ·intro b hb'
    have hb2:b∈(Value.slice (some ⟨g,0,none⟩) (σ.outer.length+1) cap::(rs++ [vi])).filterMap Value.ownBlock:=hb'
    rw[List.filterMap_cons]at hb2
    rcases List.mem_cons.1 hb2 with rfl|hb2
    ·exact hgn.2
    ·exact(hrest.2 b (hp2.mem_iff.1 hb2)).1
theorem openGroup_no{w:World}{R gr:Nat}(h6:w.cell? ⟨R,6,none⟩=some (.int .i64 gr))(hgr:9<=gr)(hg2:gr<=1000):
  Calls Tryz.prog 58 #[.pointer (some ⟨R,0,none⟩)] w fun e w'=>e= .returned (.int .i64 9)/\w'=w:=by
 go_enter Tryz.func58,Tryz.ntmps58
 go_wp2
 go_ret
 exact⟨rfl,rfl⟩
theorem openGroup_rd{w:World}{base R:Nat}{s:ByteArray}{H:Fins}{σ:St}(h:Rd w base R s H σ)(hp:σ.pos<=1000)(hn:σ.outer.length<=1000)(hgr:σ.groups<9):
  Calls Tryz.prog 58 #[.pointer (some ⟨R,0,none⟩)] w fun e w'=>e= .returned (.int .i64 0)/\
   Rd w' base R s H {σ with pos:=σ.pos+2,inner:=⟨σ.groups+1,σ.pos,[]⟩,outer:=σ.outer++ [σ.inner],groups:=σ.groups+1}/\Below R w w':=by
 obtain⟨vi,vo,rs,h4,h5,hlive,ho,hout,hap⟩:=h.rows
 obtain⟨ia,ic,hvi⟩:=hlive.shape
 have hvo:∃ao cp,vo= .slice ao σ.outer.length cp:=by
  rcases ho.2 with⟨rfl,h0⟩|⟨g,cap,_,rfl,_⟩
  ·exact⟨none,0,by rw[h0]⟩
  ·exact⟨_,_,rfl⟩
 obtain⟨ao,cp,rfl⟩:=hvo
 rw[hvi]at h4
 refine(openGroup_walk R σ.outer.length cp base σ.inner.number σ.inner.start σ.pos σ.groups ao ia σ.inner.items.length ic (outCells σ.outer rs) w h.c1 h.c2 h.c3 h4 h5 h.c6 h.fz hp hgr ho h.hb hn h.hR).mono ?_
 rintro e w' ⟨rfl,W,hM,rfl⟩
 rw[<-hvi]at hM
 exact⟨rfl,h.opened hlive ho hout hap hM⟩
end Go.Proofs.YtldiemjlpnachaaGreatDoor
namespace Go.Proofs.YtldiemjlpnachaaGreatDoor
open Go.RowKit
theorem owns_pop{w:World}{base e size g n cap:Nat}{xs ys:List Value}(h:w.ownsRow base e size (.slice (some ⟨g,0,none⟩) (n+1) cap) (n+1) (xs++ys))(hx:xs.length=n*size):w.ownsRow base e size (.slice (some ⟨g,0,none⟩) n cap) n xs:=by
 obtain⟨cur,hb,hg,h1,h2,h3,_,_⟩:=owns_cells h
 refine owns_of_cells hb hg (by omega) h2 h3 hx ?_
 intro j v hv
 refine owns_cell h j v ?_
 rw[List.getElem?_append_left (by have:=(List.getElem?_eq_some_iff.1 hv).1;omega)]
 exact hv
theorem closeGroup_no{w:World}{R cp:Nat}{ao:Option Addr}(h5:w.cell? ⟨R,5,none⟩=some (.slice ao 0 cp)):
  Calls Tryz.prog 59 #[.pointer (some ⟨R,0,none⟩)] w fun e w'=>e= .returned (.int .i64 8)/\w'=w:=by
 go_enter Tryz.func59,Tryz.ntmps59
 go_wp2
 go_ret
 exact⟨rfl,rfl⟩
theorem closeGroup_walk(R g n cap num st on os_:Nat)(ia:Option Addr)(il ic:Nat)(oa:Option Addr)(ol oc:Nat)(w:World)(cb:Bool)
  (h2:w.cell? ⟨R,2,none⟩=some (.int .i64 num))(h3:w.cell? ⟨R,3,none⟩=some (.int .i64 st))(h4:w.cell? ⟨R,4,none⟩=some (.slice ia il ic))(h5:w.cell? ⟨R,5,none⟩=some (.slice (some ⟨g,0,none⟩) (n+1) cap))(h7:w.cell? ⟨R,7+num,none⟩=some (.bool cb))
  (fz:∀i,i<18->w.frozen? ⟨R,i,none⟩=false)(g0:w.cell? ⟨g,n*3,none⟩=some (.int .i64 on))(g1:w.cell? ⟨g,n*3+1,none⟩=some (.int .i64 os_))(g2:w.cell? ⟨g,n*3+2,none⟩=some (.slice oa ol oc))
  (hn:n<=1000)(hcap:n+1<=cap)(_hcap2:cap<=9223372036854775807)(hnum:num<=9)(_hgR:g≠R)(Q:World->Prop)
  (hput:∀V o1,V=((((w.setCell ⟨R,2,none⟩ (.int .i64 on)).setCell ⟨R,3,none⟩ (.int .i64 os_)).setCell ⟨R,4,none⟩ (.slice oa ol oc)).setCell ⟨R,5,none⟩ (.slice (some ⟨g,0,none⟩) n cap)).alloc o1->
   Calls Tryz.prog 39 #[.pointer (some ⟨R,0,none⟩),.agg #[.int .i64 4,.int .u32 0,.int .u32 0,.int .u32 0,.int .u32 0,.int .u32 0,.int .u32 0,.int .u32 0,.int .u32 0,.int .i64 num,.int .i64 0,.int .i64 0,.slice ia il ic],.int .i64 2] (V.setCell ⟨R,7+num,none⟩ (.bool true)).drew fun e w'=>e= .returned (.tuple #[])/\Q w'):
  Calls Tryz.prog 59 #[.pointer (some ⟨R,0,none⟩)] w fun e w'=>e= .returned (.int .i64 0)/\Q w':=by
 have Hput:=hd hput
 clear hput
 have hn0:(0:Int)<=(n:Int):=by omega
 have hne:((n:Int)+1==0)=false:=by simp;omega
 have hc1:(n:Int)<=(cap:Int):=by omega
 have hnum0:(0:Int)<=(num:Int):=by omega
 have hnum1:(num:Int)<10:=by omega
 have f2:=fz 2 (by omega)
 have f3:=fz 3 (by omega)
 have f4:=fz 4 (by omega)
 have f5:=fz 5 (by omega)
 have f7:=fz (7+num) (by omega)
 have lR:=World.block_lt_of_cell? w _ h2
 have lg:=World.block_lt_of_cell? w _ g0
 clear fz
 go_enter Tryz.func59,Tryz.ntmps59
 go_wp2
 have c7:(((((w.setCell ⟨R,2,none⟩ (.int .i64 on)).setCell ⟨R,3,none⟩ (.int .i64 os_)).setCell ⟨R,4,none⟩ (.slice oa ol oc)).setCell ⟨R,5,none⟩ (.slice (some ⟨g,0,none⟩) n cap)).alloc (.cells #[.int .i64 num,.int .i64 st,.slice ia il ic] 80)).cell? ⟨R,7+num,none⟩=some (.bool cb):=by
  rw[World.cell?_alloc_lt _ _ _ (by simp[World.setCell];exact lR),World.cell?_setCell_other _ _ _ _ (by rintro e;injection e;omega),World.cell?_setCell_other _ _ _ _ (by rintro e;injection e;omega),World.cell?_setCell_other _ _ _ _ (by rintro e;injection e;omega),World.cell?_setCell_other _ _ _ _ (by rintro e;injection e;omega)]
  exact h7
 have k7:(((((w.setCell ⟨R,2,none⟩ (.int .i64 on)).setCell ⟨R,3,none⟩ (.int .i64 os_)).setCell ⟨R,4,none⟩ (.slice oa ol oc)).setCell ⟨R,5,none⟩ (.slice (some ⟨g,0,none⟩) n cap)).alloc (.cells #[.int .i64 num,.int .i64 st,.slice ia il ic] 80)).frozen? ⟨R,7+num,none⟩=false:=by
  rw[World.frozen?_alloc_old _ _ _ (by simp[World.setCell];omega)]
  simpa using f7
 have nz:((((w.setCell ⟨R,2,none⟩ (.int .i64 on)).setCell ⟨R,3,none⟩ (.int .i64 os_)).setCell ⟨R,4,none⟩ (.slice oa ol oc)).setCell ⟨R,5,none⟩ (.slice (some ⟨g,0,none⟩) n cap)).heap.size=w.heap.size:=by simp[World.setCell]
 have c20:(((((w.setCell ⟨R,2,none⟩ (.int .i64 on)).setCell ⟨R,3,none⟩ (.int .i64 os_)).setCell ⟨R,4,none⟩ (.slice oa ol oc)).setCell ⟨R,5,none⟩ (.slice (some ⟨g,0,none⟩) n cap)).alloc (.cells #[.int .i64 num,.int .i64 st,.slice ia il ic] 80)).cell? ⟨w.heap.size,0,none⟩=some (.int .i64 num):=World.cell?_alloc_at _ _ _ _ nz.symm
 have c22:(((((w.setCell ⟨R,2,none⟩ (.int .i64 on)).setCell ⟨R,3,none⟩ (.int .i64 os_)).setCell ⟨R,4,none⟩ (.slice oa ol oc)).setCell ⟨R,5,none⟩ (.slice (some ⟨g,0,none⟩) n cap)).alloc (.cells #[.int .i64 num,.int .i64 st,.slice ia il ic] 80)).cell? ⟨w.heap.size,2,none⟩=some (.slice ia il ic):=World.cell?_alloc_at _ _ _ _ nz.symm
 generalize hV:((((w.setCell ⟨R,2,none⟩ (.int .i64 on)).setCell ⟨R,3,none⟩ (.int .i64 os_)).setCell ⟨R,4,none⟩ (.slice oa ol oc)).setCell ⟨R,5,none⟩ (.slice (some ⟨g,0,none⟩) n cap)).alloc (.cells #[.int .i64 num,.int .i64 st,.slice ia il ic] 80)=V at c7 k7 c20 c22 ⊢
 have HV:=hd hV
 have hne2:w.heap.size≠R:=by omega
 clear hV nz h2 h3 h4 h5 h7 g0 g1 g2 f2 f3 f4 f5 f7
 have kk:(V.setCell ⟨R,7+num,none⟩ (.bool true)).cell? ⟨w.heap.size,0,none⟩=some (.int .i64 num):=by rw[World.cell?_setCell_far _ _ _ _ (by show R≠w.heap.size;omega)];exact c20
 have kk2:(V.setCell ⟨R,7+num,none⟩ (.bool true)).cell? ⟨w.heap.size,2,none⟩=some (.slice ia il ic):=by rw[World.cell?_setCell_far _ _ _ _ (by show R≠w.heap.size;omega)];exact c22
 go_region_held3 (fun w'=>w'.cell? ⟨w.heap.size,0,none⟩=some (.int .i64 num)) (go_keep) (fail)
 go_wp2_with fail
 refine(Hput.out V _ HV.out.symm).mono ?_
 rintro e w2 ⟨rfl,hq⟩
 have HQ:=hd hq
 clear hq
 go_wp2
 go_ret
 exact⟨rfl,HQ.out⟩
theorem Live.finish{w:World}{base:Nat}{H:Fins}{v:Value}{its:List It}(h:Live w base H v its)(hn:its.length<=1000)(hv:∀b,v.ownBlock=some b->H b=none):
  ∃H':Fins,(∀g arr,H g=some arr->H' g=some arr)/\(∀g arr,H' g=some arr->H g=some arr\/(v.ownBlock=some g/\w.heap[g]?=some (.cells arr 119 (0,0))))/\
   ∃D ra rc,v= .slice ra its.length rc/\RowFin (ItemOk H' D) H' ra its.length its:=by
 obtain⟨cs,hcs,hown⟩:=h
 rcases hown.2 with⟨rfl,h0⟩|⟨g,cap,cur,rfl,hb,hg,h1,h2,h3,h4⟩
 ·exact⟨H,fun _ _ h=>h,fun _ _ h=> .inl h,0,none,0,by rw[h0],rfl,hn,.inl h0⟩
 ·have hle:=finAdd_le (arr:=cur) (hv g rfl)
  obtain⟨D,hD⟩:=(hcs.mono hle).deep
  refine⟨finAdd H g cur,hle,?_,D,_,cap,rfl,rfl,hn,.inr ⟨g,cur,rfl,by simp[finAdd],fun i hi=>?_⟩⟩
  ·intro b arr hb'
   unfold finAdd at hb'
   split at hb'
   ·rename_i e
    cases hb'
    subst e
    exact .inr ⟨rfl,hg⟩
   ·exact .inl hb'
  ·have:=hD i hi
   rw[<-h4]at this
   unfold itemAt
   rw[List.drop_take,List.take_take,Nat.min_eq_left (by omega)]at this
   exact this
theorem Rd.closed{w V:World}{base R g cap:Nat}{s:ByteArray}{H H':Fins}{σ:St}{os:List Rw}{r:Rw}{vi v:Value}{rs:List Value}{o1:Obj}
  (h:Rd w base R s H σ)(hnum:σ.inner.number<=9)(h5:w.cell? ⟨R,5,none⟩=some (.slice (some ⟨g,0,none⟩) (os.length+1) cap))(hvi:w.cell? ⟨R,4,none⟩=some vi)(hil:∀k,vi.ownBlock=some k->base<=k/\k<w.heap.size)
  (hlive:Live w base H v r.items)(ho:w.ownsRow base 80 3 (.slice (some ⟨g,0,none⟩) (os.length+1) cap) (os.length+1) (outCells os rs++ [.int .i64 r.number,.int .i64 r.start,v]))(hout:OutOk w base H rs os)(hap:Apart H (vi:: .slice (some ⟨g,0,none⟩) (os.length+1) cap::(rs++ [v])))
  (hH:∀g arr,H g=some arr->H' g=some arr)(hH':∀g arr,H' g=some arr->H g=some arr\/(vi.ownBlock=some g/\w.heap[g]?=some (.cells arr 119 (0,0))))
  (hV:V=((((w.setCell ⟨R,2,none⟩ (.int .i64 r.number)).setCell ⟨R,3,none⟩ (.int .i64 r.start)).setCell ⟨R,4,none⟩ v).setCell ⟨R,5,none⟩ (.slice (some ⟨g,0,none⟩) os.length cap)).alloc o1):
  Rd (V.setCell ⟨R,7+σ.inner.number,none⟩ (.bool true)).drew base R s H' {σ with inner:=r,outer:=os,closed:=fun i=>if i=σ.inner.number then true else σ.closed i}/\Below R w (V.setCell ⟨R,7+σ.inner.number,none⟩ (.bool true)).drew:=by
 have hR:=h.hR
 have hb:=h.hb
 have ne:∀(U:World) (i j:Nat) (x:Value),i≠j->(U.setCell ⟨R,i,none⟩ x).cell? ⟨R,j,none⟩=U.cell? ⟨R,j,none⟩:=fun U i j x h=>World.cell?_setCell_other _ _ _ _ (by rintro e;cases e;exact h rfl)
 have hVc:∀i,V.cell? ⟨R,i,none⟩=((((w.setCell ⟨R,2,none⟩ (.int .i64 r.number)).setCell ⟨R,3,none⟩ (.int .i64 r.start)).setCell ⟨R,4,none⟩ v).setCell ⟨R,5,none⟩ (.slice (some ⟨g,0,none⟩) os.length cap)).cell? ⟨R,i,none⟩:=by
  intro i
  rw[hV]
  exact World.cell?_alloc_lt _ _ _ (by simp[World.setCell];omega)
 have hch:Ch w (V.setCell ⟨R,7+σ.inner.number,none⟩ (.bool true)).drew R none [2,3,4,5,7+σ.inner.number]:=by
  rw[hV]
  exact((((((Ch.refl w R none [2,3,4,5,7+σ.inner.number]).put 2 (by simp) _).put 3 (by simp) _).put 4 (by simp) _).put 5 (by simp) _).alloc (by omega) o1|>.put (7+σ.inner.number) (by simp) _).drew
 have cl:∀i,i≠2->i≠3->i≠4->i≠5->i≠7+σ.inner.number->(V.setCell ⟨R,7+σ.inner.number,none⟩ (.bool true)).drew.cell? ⟨R,i,none⟩=w.cell? ⟨R,i,none⟩:=fun i a b c d e=>hch.cell i (by simp;omega)
 have m2:(V.setCell ⟨R,7+σ.inner.number,none⟩ (.bool true)).cell? ⟨R,2,none⟩=some (.int .i64 r.number):=by
  rw[ne _ _ _ _ (by omega),hVc,ne _ _ _ _ (by omega),ne _ _ _ _ (by omega),ne _ _ _ _ (by omega)];exact World.cell?_setCell_same _ _ _ h.c2
 have m3:(V.setCell ⟨R,7+σ.inner.number,none⟩ (.bool true)).cell? ⟨R,3,none⟩=some (.int .i64 r.start):=by
  rw[ne _ _ _ _ (by omega),hVc,ne _ _ _ _ (by omega),ne _ _ _ _ (by omega)];exact World.cell?_setCell_same _ _ _ (u:= .int .i64 σ.inner.start) (by rw[ne _ _ _ _ (by omega)];exact h.c3)
 have m4:(V.setCell ⟨R,7+σ.inner.number,none⟩ (.bool true)).cell? ⟨R,4,none⟩=some v:=by
  rw[ne _ _ _ _ (by omega),hVc,ne _ _ _ _ (by omega)];exact World.cell?_setCell_same _ _ _ (u:=vi) (by rw[ne _ _ _ _ (by omega),ne _ _ _ _ (by omega)];exact hvi)
 have m5:(V.setCell ⟨R,7+σ.inner.number,none⟩ (.bool true)).cell? ⟨R,5,none⟩=some (.slice (some ⟨g,0,none⟩) os.length cap):=by
  rw[ne _ _ _ _ (by omega),hVc];exact World.cell?_setCell_same _ _ _ (u:= .slice (some ⟨g,0,none⟩) (os.length+1) cap) (by rw[ne _ _ _ _ (by omega),ne _ _ _ _ (by omega),ne _ _ _ _ (by omega)];exact h5)
 have m7:(V.setCell ⟨R,7+σ.inner.number,none⟩ (.bool true)).cell? ⟨R,7+σ.inner.number,none⟩=some (.bool true):=
  World.cell?_setCell_same _ _ _ (u:= .bool (σ.closed σ.inner.number)) (by rw[hVc,ne _ _ _ _ (by omega),ne _ _ _ _ (by omega),ne _ _ _ _ (by omega),ne _ _ _ _ (by omega)];exact h.c7 _ (by omega))
 have blk:∀k,base<=k->k<w.heap.size->(V.setCell ⟨R,7+σ.inner.number,none⟩ (.bool true)).drew.heap[k]?=w.heap[k]?:=fun k h1 h2=>hch.block k h2 (by omega) (by simp)
 obtain⟨lcs,hlcs,hlown⟩:=hlive
 have hgo:=ho.lt g rfl
 refine⟨⟨hR,Nat.le_trans hb hch.size,(cl 0 (by omega) (by omega) (by omega) (by omega) (by omega)).trans h.c0,(cl 1 (by omega) (by omega) (by omega) (by omega) (by omega)).trans h.c1,m2,m3,(cl 6 (by omega) (by omega) (by omega) (by omega) (by omega)).trans h.c6,?_,h.rf.ch hch (by simp;omega) hR (fun k hk=>by cases hk),
  fun i hi=>(hch.frozen i).trans (h.fz i hi),?_,?_,?_⟩,hch.below (by omega) (fun k hk=>by cases hk)⟩
 ·intro i hi
  show(V.setCell ⟨R,7+σ.inner.number,none⟩ (.bool true)).drew.cell? ⟨R,7+i,none⟩=some (.bool (if i=σ.inner.number then true else σ.closed i))
  by_cases e:i=σ.inner.number
  ·rw[if_pos e,e];exact m7
  ·rw[if_neg e];exact(cl _ (by omega) (by omega) (by omega) (by omega) (by omega)).trans (h.c7 i hi)
 ·intro k arr hk
  rcases hH' k arr hk with hk|⟨hk,hw⟩
  ·rw[blk k (h.finb k arr hk) (h.fin.lt hk)];exact h.fin k arr hk
  ·have:=hil k hk
   rw[blk k this.1 this.2];exact hw
 ·intro k arr hk
  rcases hH' k arr hk with hk|⟨hk,_⟩
  ·exact h.finb k arr hk
  ·exact(hil k hk).1
 ·refine⟨v,.slice (some ⟨g,0,none⟩) os.length cap,rs,m4,m5,⟨lcs,hlcs.mono hH,owns_same hlown (fun k hk=>blk k (hlown.lt k hk).1 (hlown.lt k hk).2)⟩,owns_same (owns_pop ho (outCells_len hout.length)) (fun k hk=>by cases hk;exact blk g hgo.1 hgo.2),(hout.mono hH).same (fun u hu k hk=>blk k (hout.lt u hu k hk).1 (hout.lt u hu k hk).2),?_⟩
  have hmem:∀b,b∈(v::Value.slice (some ⟨g,0,none⟩) os.length cap::rs).filterMap Value.ownBlock->b∈(Value.slice (some ⟨g,0,none⟩) (os.length+1) cap::(rs++ [v])).filterMap Value.ownBlock:=by
   intro b hb'
   obtain⟨u,hu,hk⟩:=List.mem_filterMap.1 hb'
   rcases List.mem_cons.1 hu with rfl|hu
   ·exact mem_blocks (v:=u) (by simp) hk
   ·rcases List.mem_cons.1 hu with rfl|hu
    ·exact mem_blocks (v:= .slice (some ⟨g,0,none⟩) (os.length+1) cap) (by simp) hk
    ·exact mem_blocks (v:=u) (by simp[hu]) hk
  have hn1:((Value.slice (some ⟨g,0,none⟩) (os.length+1) cap::(rs++ [v])).filterMap Value.ownBlock).Nodup:=by
   have hn:=hap.1
   rw[List.filterMap_cons]at hn
   split at hn
   ·exact hn
   ·exact(List.nodup_cons.1 hn).2
  have hpm:(Value.slice (some ⟨g,0,none⟩) (os.length+1) cap::(rs++ [v])).Perm (v::Value.slice (some ⟨g,0,none⟩) (os.length+1) cap::rs):=
   (List.Perm.cons _ (List.perm_append_singleton v rs)).trans (List.Perm.swap _ _ _)
  have hn2:=(hpm.filterMap Value.ownBlock).nodup_iff.1 hn1
  refine⟨?_,?_⟩
  ·rw[List.filterMap_cons,List.filterMap_cons]at hn2 ⊢
   exact hn2
  ·intro b hb'
   have hm:=hmem b hb'
   have hbn:H b=none:=hap.2 b (by
    rw[List.filterMap_cons]
    split
    ·exact hm
    ·exact List.mem_cons_of_mem _ hm)
   cases hx:H' b with
   |none=>rfl
   |some arr=>
    rcases hH' b arr hx with hx|⟨hx,_⟩
    ·rw[hbn]at hx;cases hx
    ·have hn:=hap.1
     rw[List.filterMap_cons,hx]at hn
     exact absurd hm (List.nodup_cons.1 hn).1
theorem closeGroup_rd{w:World}{base R:Nat}{s:ByteArray}{H:Fins}{σ:St}(h:Rd w base R s H σ)(os:List Rw)(r:Rw)(hos:σ.outer=os++ [r])(hp:σ.pos<=1000)(hn:os.length<=1000)(hin:σ.inner.items.length<=1000)(hrn:r.items.length<=1000)(hnum:σ.inner.number<=9):
  Calls Tryz.prog 59 #[.pointer (some ⟨R,0,none⟩)] w fun e w'=>e= .returned (.int .i64 0)/\
   ∃H',Rd w' base R s H' {σ with pos:=σ.pos+2,inner:= {r with items:=r.items++ [itGrp σ.inner.number σ.inner.items]},outer:=os,closed:=fun i=>if i=σ.inner.number then true else σ.closed i}/\Below R w w':=by
 obtain⟨vi,vo,rs0,h4,h5,hlive,ho,hout,hap⟩:=h.rows
 rw[hos]at ho hout
 obtain⟨rs,v,rfl,hout',hlv⟩:=hout.unsnoc
 rw[outCells_snoc hout'.length]at ho
 simp only[List.length_append,List.length_singleton]at ho
 obtain⟨g,cap,rfl,_,_⟩:=ho.form (by omega)
 obtain⟨oa,oc,hv⟩:=hlv.shape
 have hil:∀k,vi.ownBlock=some k->base<=k/\k<w.heap.size:=by
  obtain⟨_,_,hx⟩:=hlive
  exact hx.lt
 obtain⟨H',hH,hH',D,ia,ic,hvi,hfin⟩:=hlive.finish hin (fun b hb=>hap.2 b (mem_blocks (v:=vi) (by simp) hb))
 obtain⟨cur,hgb,hg,hc1,hc2,hc3,_,_⟩:=owns_cells ho
 have hgR:g≠R:=by have:=h.hR;omega
 have hcell:∀j u,([.int .i64 r.number,.int .i64 r.start,v]:List Value)[j]?=some u->w.cell? ⟨g,os.length*3+j,none⟩=some u:=by
  intro j u hu
  refine owns_cell ho _ u ?_
  rw[List.getElem?_append_right (by rw[outCells_len hout'.length];omega),outCells_len hout'.length,show os.length*3+j-os.length*3=j by omega]
  exact hu
 have h4':w.cell? ⟨R,4,none⟩=some (.slice ia σ.inner.items.length ic):=by rw[<-hvi];exact h4
 have g2:w.cell? ⟨g,os.length*3+2,none⟩=some (.slice oa r.items.length oc):=by rw[<-hv];exact hcell 2 _ rfl
 refine closeGroup_walk R g os.length cap σ.inner.number σ.inner.start r.number r.start ia σ.inner.items.length ic oa r.items.length oc w (σ.closed σ.inner.number) h.c2 h.c3 h4' h5 (h.c7 _ (by omega)) h.fz (hcell 0 _ rfl) (hcell 1 _ rfl) g2 hn (by omega) (by unfold maxLen at hc2;omega) hnum hgR
  (fun w'=>∃H',Rd w' base R s H' {σ with pos:=σ.pos+2,inner:= {r with items:=r.items++ [itGrp σ.inner.number σ.inner.items]},outer:=os,closed:=fun i=>if i=σ.inner.number then true else σ.closed i}/\Below R w w') ?_
 intro V o1 hV
 rw[<-hv]at hV
 have hmid:=h.closed hnum h5 h4 hil hlv ho hout' hap hH hH' hV
 have hbd:0<=rowSz (σ.inner.items.map (·.2))/\rowSz (σ.inner.items.map (·.2))<=201:=by
  refine rowGo_bd _ 1 (by omega) (by omega) (fun y hy=>?_)
  obtain⟨z,hz,rfl⟩:=List.mem_map.1 hy
  obtain⟨_,_,hrow⟩:=hfin
  rcases hrow with hx|⟨_,_,_,_,hP⟩
  ·rw[List.length_eq_zero_iff.1 hx]at hz;simp at hz
  ·obtain⟨i,hi,rfl⟩:=List.getElem_of_mem hz
   exact(hP i hi).bd
 have hok:∃d,ItemOk H' d [.int .i64 4,.int .u32 0,.int .u32 0,.int .u32 0,.int .u32 0,.int .u32 0,.int .u32 0,.int .u32 0,.int .u32 0,.int .i64 σ.inner.number,.int .i64 0,.int .i64 0,.slice ia σ.inner.items.length ic] (itGrp σ.inner.number σ.inner.items):=
  ⟨D+1,fun _=>0,σ.inner.number,0,0,ia,σ.inner.items.length,ic,rfl,by show(0:Int)<=4;omega,by show(4:Int)<=5;omega,by show 0<=1+rowSz _;omega,by show 1+rowSz _<=202;omega,.inl ⟨rfl,σ.inner.items,hfin,rfl,σ.inner.number,rfl,rfl⟩⟩
 refine(put_rd hmid.1 2 (by omega) hp hrn 4 0 0 0 0 0 0 0 0 σ.inner.number 0 0 ia σ.inner.items.length ic _ hok).mono ?_
 rintro e w' ⟨rfl,hrd,hbw⟩
 exact⟨rfl,H',hrd,hmid.2.trans hbw⟩
end Go.Proofs.YtldiemjlpnachaaGreatDoor
