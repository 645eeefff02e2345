import Derived.Test.YtldiemjlpnachaaDoorAw
namespace Go.Proofs.YtldiemjlpnachaaDoor
open Go.RowKit
def Lst(w:World)(B k:Nat)(v:Value):Prop:=
 v= .slice none 0 0∨∃g cap cur,v= .slice (some ⟨g,0,none⟩) cap cap∧B≤g∧w.heap[g]?=some (.cells cur 41 (0,0))∧cap≤maxLen∧cur.size=cap*2∧
  ∀i,i<cap→cur[i*2]?=some (.int .i64 (-7))∧cur[i*2+1]?=some (.int .i64 (-(k:Int)))
theorem Lst.same{w w':World}{B k:Nat}{v:Value}(h:Lst w B k v)(hk:∀g,v.ownBlock=some g→w'.heap[g]?=w.heap[g]?):Lst w' B k v:=by
 rcases h with h|⟨g,cap,cur,rfl,h1,h2,h3⟩
 ·exact .inl h
 ·exact .inr ⟨g,cap,cur,rfl,h1,(hk g rfl).trans h2,h3⟩
theorem Lst.lt{w:World}{B k g:Nat}{v:Value}(h:Lst w B k v)(hg:v.ownBlock=some g):B≤g∧g<w.heap.size:=by
 rcases h with rfl|⟨g',cap,cur,rfl,h1,h2,h3⟩
 ·cases hg
 ·cases hg;exact⟨h1,(Array.getElem?_eq_some_iff.1 h2).1⟩
theorem Lst.shape{w:World}{B k:Nat}{v:Value}(h:Lst w B k v):∃ao ca,v= .slice ao ca ca∧ca≤9223372036854775807:=by
 rcases h with rfl|⟨g',cap,cur,rfl,h1,h2,h3,_⟩
 ·exact⟨_,_,rfl,by omega⟩
 ·unfold maxLen at h3;exact⟨_,_,rfl,by omega⟩
theorem Lst.at{w:World}{B k ca j:Nat}{ao:Option Addr}(h:Lst w B k (.slice ao ca ca))(hj:j<ca):∃g,ao=some ⟨g,0,none⟩∧w.cell? ⟨g,j*2,none⟩=some (.int .i64 (-7))∧w.cell? ⟨g,j*2+1,none⟩=some (.int .i64 (-(k:Int))):=by
 rcases h with h|⟨g',cap,cur,h,h1,h2,h3,h4,h5⟩
 ·cases h;omega
 ·cases h
  exact⟨g',rfl,by simp[World.cell?,h2,(h5 j hj).1],by simp[World.cell?,h2,(h5 j hj).2]⟩
def Lsts(w:World)(B:Nat)(lv:Value)(vs:List Value):Prop:=
 w.ownsRow B 36 1 lv vs.length vs∧∀i v,vs[i]?=some v→Lst w B i v∧∀g,v.ownBlock=some g→lv.ownBlock≠some g
theorem Lsts.same{w w':World}{B:Nat}{lv:Value}{vs:List Value}(h:Lsts w B lv vs)(hk:∀g,B≤g→g<w.heap.size→w'.heap[g]?=w.heap[g]?):Lsts w' B lv vs:=
 ⟨owns_same h.1 (fun k e=>hk k (h.1.lt k e).1 (h.1.lt k e).2),fun i v e=>⟨(h.2 i v e).1.same (fun g eg=>hk g ((h.2 i v e).1.lt eg).1 ((h.2 i v e).1.lt eg).2),(h.2 i v e).2⟩⟩
def Nws(w:World)(B C:Nat)(v:Value):Prop:=v= .slice none 0 0∨∃g n cap cur,v= .slice (some ⟨g,0,none⟩) n cap∧(B≤g∧C≤g)∧w.heap[g]?=some (.cells cur 41 (0,0))∧cap≤maxLen∧cur.size=cap*2
theorem nws_next{w2 wr w3 w4:World}{va:Value}{xs:List Value}{n:Nat}(HB:Below w2.heap.size w2 wr)(H3:Below wr.heap.size wr w3)
  (Ho:w3.ownsRow wr.heap.size 41 2 va n xs)(H4:Below w3.heap.size w3 w4):Below wr.heap.size wr w4∧Nws w4 w2.heap.size wr.heap.size va:=by
 have b4:=H3.trans (H4.mono H3.size)
 refine⟨b4,?_⟩
 obtain⟨_,⟨rfl,_⟩|⟨g,cap,cur,rfl,h1,h2,h3,h4,h5,h6⟩⟩:=Ho
 ·exact .inl rfl
 ·exact .inr ⟨g,n,cap,cur,rfl,⟨Nat.le_trans HB.size h1,h1⟩,(H4.block g (Array.getElem?_eq_some_iff.1 h2).1).trans h2,h4,h5⟩
def Wrt(w4 wx:World)(C k:Nat)(ao:Option Addr)(ca i:Nat):Prop:=
 wx.os=w4.os∧wx.tape=w4.tape∧wx.output=w4.output∧wx.heap.size=w4.heap.size∧(∀j,(Value.slice ao ca ca).ownBlock≠some j→wx.heap[j]?=w4.heap[j]?)∧
 ((ao=none∧ca=0)∨∃g cur,ao=some ⟨g,0,none⟩∧C≤g∧wx.heap[g]?=some (.cells cur 41 (0,0))∧ca≤maxLen∧cur.size=ca*2∧∀j,j<i→cur[j*2]?=some (.int .i64 (-7))∧cur[j*2+1]?=some (.int .i64 (-(k:Int))))
theorem Wrt.init{w4:World}{B C k ca n:Nat}{ao:Option Addr}(h:Nws w4 B C (.slice ao ca ca)):Wrt w4 (w4.drewN n) C k ao ca 0:=by
 refine⟨rfl,rfl,rfl,rfl,fun _ _=>rfl,?_⟩
 rcases h with h|⟨g,n',cap,cur,h,h1,h2,h3,h4⟩
 ·cases h;exact .inl ⟨rfl,rfl⟩
 ·cases h;exact .inr ⟨g,cur,rfl,h1.2,h2,h3,h4,fun j hj=>absurd hj (Nat.not_lt_zero _)⟩
theorem Wrt.at{w4 wx:World}{C k ca i:Nat}{ao:Option Addr}(h:Wrt w4 wx C k ao ca i)(hi:i<ca):
  ∃g v u,ao=some ⟨g,0,none⟩∧wx.cell? ⟨g,i*2,none⟩=some v∧wx.cell? ⟨g,i*2+1,none⟩=some u∧(∀j,wx.frozen? ⟨g,j,none⟩=false)∧
   Hid (Wrt w4 ((wx.setCell ⟨g,i*2,none⟩ (.int .i64 (-7))).setCell ⟨g,i*2+1,none⟩ (.int .i64 (-(k:Int)))) C k ao ca (i+1)):=by
 obtain⟨a1,a2,a3,a4,a5,⟨_,rfl⟩|⟨g,cur,rfl,h1,h2,h3,h4,h5⟩⟩:=h
 ·omega
 ·refine⟨g,cur[i*2]'(by omega),cur[i*2+1]'(by omega),rfl,by simp[World.cell?,h2,h4,show i*2<ca*2 by omega],by simp[World.cell?,h2,h4,show i*2+1<ca*2 by omega],fun j=>?_,hd ⟨a1,a2,a3,?_,fun j hj=>?_,.inr ⟨g,_,rfl,h1,heap_setCell_self (heap_setCell_self h2 _) _,h3,?_,fun j hj=>?_⟩⟩⟩
  ·unfold World.frozen?
   rw[h2]
   simp
  ·simp only[World.size_setCell];exact a4
  ·have hne:j≠g:=fun e=>hj (by subst e;rfl)
   rw[Below.heap_setCell _ _ _ _ hne,Below.heap_setCell _ _ _ _ hne]
   exact a5 j hj
  ·simp only[Array.size_setIfInBounds];exact h4
  ·simp only[Array.getElem?_setIfInBounds,Array.size_setIfInBounds]
   by_cases e:j=i
   ·subst e
    rw[if_neg (by omega),if_pos rfl,if_pos (by omega),if_pos rfl,if_pos (by omega)]
    exact⟨rfl,rfl⟩
   ·rw[if_neg (by omega),if_neg (by omega),if_neg (by omega),if_neg (by omega)]
    exact h5 j (by omega)
theorem Wrt.fin{w2 wr w4 wx:World}{k ca:Nat}{ao:Option Addr}{lv:Value}{vs:List Value}(HB:Below w2.heap.size w2 wr)(HL:Lsts wr w2.heap.size lv vs)(b4:Below wr.heap.size wr w4)(h:Wrt w4 wx wr.heap.size k ao ca ca):
  Below w2.heap.size w2 wx∧Lsts wx w2.heap.size lv vs∧Lst wx w2.heap.size k (.slice ao ca ca)∧∀g,(Value.slice ao ca ca).ownBlock=some g→lv.ownBlock≠some g:=by
 obtain⟨a1,a2,a3,a4,a5,h6⟩:=h
 have hg:∀g,(Value.slice ao ca ca).ownBlock=some g→wr.heap.size≤g:=fun g hg=>by
  rcases h6 with⟨rfl,_⟩|⟨g',cur,rfl,h1,_⟩
  ·cases hg
  ·cases hg;exact h1
 have blk:∀j,j<wr.heap.size→wx.heap[j]?=wr.heap[j]?:=fun j hj=>(a5 j (fun e=>by have:=hg j e;omega)).trans (b4.block j hj)
 have hs:=HB.size
 have hs4:=b4.size
 refine⟨HB.trans ⟨a1.trans b4.os,a2.trans b4.tape,a3.trans b4.output,by omega,fun j hj=>blk j (by omega)⟩,HL.same (fun g _ h2=>blk g h2),?_,fun g h1 h2=>?_⟩
 ·rcases h6 with⟨rfl,rfl⟩|⟨g',cur,rfl,h1,h2,h3,h4,h5⟩
  ·exact .inl rfl
  ·exact .inr ⟨g',ca,cur,rfl,by omega,h2,h3,h4,h5⟩
 ·have:=hg g h1
  have:=(HL.1.lt g h2).2
  omega
theorem Lsts.push{wx w6:World}{B gg lc cap:Nat}{la:Option Addr}{vs:List Value}{v:Value}{o:Obj}(hL:Lsts wx B (.slice la vs.length lc) vs)(hv:Lst wx B vs.length v)(ha:∀g,v.ownBlock=some g→(Value.slice la vs.length lc).ownBlock≠some g)
  (hg:(wx.alloc o).grownBy w6 (Value.slice la vs.length lc).ownBlock)(hown:w6.ownsRow B 36 1 (.slice (some ⟨gg,0,none⟩) (vs.length+1) cap) (vs.length+1) (vs++ [v]))(hat:(Value.slice la vs.length lc).ownBlock=some gg∨gg=wx.heap.size+1):
  Lsts w6 B (.slice (some ⟨gg,0,none⟩) (vs++ [v]).length cap) (vs++ [v]):=by
 have one:∀i u,Lst wx B i u→(∀g,u.ownBlock=some g→(Value.slice la vs.length lc).ownBlock≠some g)→Lst w6 B i u∧∀g,u.ownBlock=some g→(Value.slice (some ⟨gg,0,none⟩) (vs++ [v]).length cap).ownBlock≠some g:=fun i u h1 h2=>
  ⟨h1.same (fun g e=>(hg.block g (by have:=(h1.lt e).2;simp;omega) (fun e2=>h2 g e e2.symm)).trans (Below.heap_alloc _ _ _ (h1.lt e).2)),fun g e e2=>by
   cases e2
   rcases hat with hat|hat
   ·exact h2 _ e hat
   ·have:=(h1.lt e).2;simp only at this;omega⟩
 refine⟨by rw[List.length_append,List.length_singleton];exact hown,fun i u e=>?_⟩
 by_cases hi:i<vs.length
 ·rw[List.getElem?_append_left hi]at e
  exact one i u (hL.2 i u e).1 (hL.2 i u e).2
 ·have hi2:=(List.getElem?_eq_some_iff.1 e).1
  simp at hi2
  obtain rfl:i=vs.length:=by omega
  rw[List.getElem?_append_right (Nat.le_refl _),Nat.sub_self]at e
  cases e
  exact one _ _ hv ha
theorem info_spans:(Tryd.prog.info? 36).map (fun i=>(i.zero,i.size,i.bytes))=some (some (.slice none 0 0),1,24):=by kernel_rfl
theorem uSpans:Tryd.prog.underlying 39=some (.slice 36):=by kernel_rfl
set_option maxRecDepth 100000 in
set_option maxHeartbeats 3200000 in
theorem owned_any (p s1 s2 : ByteArray) (w : World) (hn : NamesIn w) (hc : ClsW w) (hm : p.size ≤ maxLen) (hsm1 : s1.size ≤ maxLen) (hsm2 : s2.size ≤ maxLen) :
    Calls Tryd.prog 7 #[.string p, .string s1, .string s2] w fun e w' => e = .returned (.bool true) ∧ Below w.heap.size w w' := by
  have Hp := hd (both2_any p w hn hc hm)
  unfold maxLen at hsm1 hsm2
  clear hn hc
  go_enter Tryd.func7, Tryd.ntmps7
  go_wp2_with fail
  refine Hp.out.mono ?_
  rintro e w2 ⟨hb, hp⟩
  have Hb := hd hb
  clear hb
  rcases hp with ⟨hok, g, h, rfl, hpi, _, hrp⟩ | rfl
  · by_cases hbig : 1048576 < s1.size ∨ 1048576 < s2.size
    · clear hpi hrp hok
      by_cases hb1 : 1048576 < s1.size
      · have hbI : (1048576 : Int) < (s1.size : Int) := by omega
        go_wp2
        go_ret
        exact ⟨rfl, Hb.out⟩
      · have hbI : ¬ (1048576 : Int) < (s1.size : Int) := by omega
        have hbI2 : (1048576 : Int) < (s2.size : Int) := by omega
        go_wp2
        go_ret
        exact ⟨rfl, Hb.out⟩
    · have hbI : ¬ (1048576 : Int) < (s1.size : Int) := by omega
      have hbI2 : ¬ (1048576 : Int) < (s2.size : Int) := by omega
      have Hrp := hd hrp
      have Hpi := hd hpi
      have Hok := hd hok
      have HX := hd (rfl : w2.heap.size = w2.heap.size)
      clear hpi hrp hok
      go_wp2_with fail
      go_loopg [10, 11] 5 (fun f lv kv wr => ∃ (vs : List Value), kv = .int .i64 vs.length ∧ vs.length ≤ 4 ∧ 4 < vs.length + f ∧ Hid (Below w2.heap.size w2 wr) ∧ Hid (Lsts wr w2.heap.size lv vs))
      case atStart => exact ⟨[], rfl, by simp, by simp, hd (Below.refl _ _), hd ⟨World.ownsRow_nil _ _ _ _, fun i v h => by simp at h⟩⟩
      case round =>
        obtain ⟨vs, rfl, hk, hkf, HB, HL⟩ := hrel
        by_cases hlt : vs.length < 4
        · have hltI : (vs.length : Int) < 4 := by omega
          have hk0 : (0 : Int) ≤ (vs.length : Int) := by omega
          have hpar : (Int.tmod (vs.length : Int) 2 = 0) ∨ (Int.tmod (vs.length : Int) 2 = 1) := by rw [Int.tmod_eq_emod_of_nonneg hk0]; omega
          obtain ⟨la, lc, rfl⟩ := owns_shape HL.out.1
          obtain ⟨gf0, rfl⟩ : ∃ gf, gk = gf + 1 := ⟨gk - 1, by omega⟩
          rcases hpar with hpar | hpar <;> go_wp2_with fail
          all_goals
            refine (all_any w wr g p.data.toList _ Hok.out (Hpi.out.below HB.out) (by omega)).mono ?_
            rintro e w3 ⟨va, rfl, hb3, ho3⟩
            have Hd := hd (fun sx hsx => dall_any w3 h p.data.toList sx Hok.out ((Hrp.out.below HB.out).below hb3) hsx)
            have Hb3 := hd hb3
            have Ho3 := hd ho3
            clear hb3 ho3
            go_wp2_with fail
            refine (Hd.out _ (by omega)).mono ?_
            rintro e w4 ⟨vb, rfl, hb4, ho4⟩
            have Hv := hd (nws_next HB.out Hb3.out Ho3.out hb4)
            have Hs := hd (same_any w4 (owns_same Ho3.out (fun k hk => hb4.block k (Ho3.out.lt k hk).2)) ho4 (by have := allE_count (p := p.data.toList) (s := s1.data.toList) (s1.size + 1) 0; have := allE_count (p := p.data.toList) (s := s2.data.toList) (s2.size + 1) 0; omega))
            clear hb4 ho4 Hd Ho3 Hb3
            go_wp2_with fail
            refine Hs.out.mono ?_
            rintro e w5 ⟨rfl, n, rfl⟩
            clear Hs
            go_upto_region 14 with fail
            go_cut [13] from 61 to 64 (fun v wx => ∃ (ao : Option Addr) (ca : Nat), v = .slice ao ca ca ∧ wx = w4.drewN n ∧ ca ≤ 9223372036854775807 ∧ Hid (Nws w4 w2.heap.size wr.heap.size (.slice ao ca ca)))
            case first =>
              obtain ⟨HB4, rfl | ⟨ga, na, ca, cur, rfl, hg1, hg2, hca, hcs⟩⟩ := Hv.out
              · go_wp2_with fail
                go_meet
                case rel => exact ⟨none, 0, rfl, rfl, by omega, hd (.inl rfl)⟩
              · unfold maxLen at hca
                go_wp2_with fail
                go_meet
                case rel => exact ⟨_, ca, rfl, rfl, by omega, hd (.inr ⟨ga, ca, ca, cur, rfl, hg1, hg2, by unfold maxLen; omega, hcs⟩)⟩
            case rest =>
              obtain ⟨ao, ca, rfl, rfl, hca, Hn⟩ := hcut
              go_wp2_with fail
              have Hfin := hd (fun wx h => Wrt.fin (wx := wx) (k := vs.length) (ca := ca) (ao := ao) HB.out HL.out Hv.out.1 h)
              clear Hv HB HL
              have hcaI : (ca : Int) ≤ 9223372036854775807 := by omega
              go_loopg [14, 67] (ca + 1) (fun f _ iv wx => ∃ i : Nat, iv = .int .i64 i ∧ i ≤ ca ∧ ca < i + f ∧ Hid (Wrt w4 wx wr.heap.size vs.length ao ca i))
              case atStart => exact ⟨0, rfl, by omega, by omega, hd (Wrt.init Hn.out)⟩
              case round =>
                obtain ⟨i, rfl, hi, hif, HW⟩ := hrel
                by_cases hic : i < ca
                · have hiI : (i : Int) < (ca : Int) := by omega
                  have hi0 : (0 : Int) ≤ (i : Int) := by omega
                  obtain ⟨ga, v1, v2, rfl, h1, h2, h3, HW2⟩ := HW.out.at hic
                  clear HW Hfin
                  obtain ⟨gf, rfl⟩ : ∃ gf, gk = gf + 1 := ⟨gk - 1, by omega⟩
                  go_wp2
                  go_roundg gf
                  case measure => omega
                  case rel => exact ⟨i + 1, by go_num, by omega, by omega, HW2⟩
                · have hiI : ¬ (i : Int) < (ca : Int) := by omega
                  obtain rfl : i = ca := by omega
                  have HF := hd (Hfin.out _ HW.out)
                  have hszx := HF.out.1.size
                  obtain ⟨i0, hi0', hz0, hz1, hz2⟩ := info_parts info_spans
                  have Happ : Hid (∀ (gg cap : Nat) (w6 : World) (o : Obj), w6.ownsRow w2.heap.size 36 1 (.slice (some ⟨gg, 0, none⟩) (vs.length + 1) cap) (vs.length + 1) (vs ++ [.slice ao i i]) → (wr.alloc o).grownBy w6 (Value.slice la vs.length lc).ownBlock → ((Value.slice la vs.length lc).ownBlock = some gg ∨ gg = wr.heap.size + 1) →
                      Below w2.heap.size w2 w6 ∧ Lsts w6 w2.heap.size (.slice (some ⟨gg, 0, none⟩) (vs ++ [Value.slice ao i i]).length cap) (vs ++ [.slice ao i i])) := hd (fun gg cap w6 o hown2 hgrow hat =>
                    ⟨⟨hgrow.os.trans HF.out.1.os, hgrow.tape.trans HF.out.1.tape, hgrow.output.trans HF.out.1.output, (by have := hgrow.size; simp at this; omega), fun k hk => (hgrow.block k (by simp; omega) (fun e => by have := (HF.out.2.1.1.lt k e.symm).1; omega)).trans ((Below.heap_alloc _ _ _ (by omega)).trans (HF.out.1.block k hk))⟩,
                      Lsts.push HF.out.2.1 HF.out.2.2.1 HF.out.2.2.2 hgrow hown2 hat⟩)
                  have hlen : (vs ++ [Value.slice ao i i]).length = vs.length + 1 := by simp
                  clear HW Hfin
                  go_wp2_with
                    (refine wpList_append_lies _ (by rfl) _ _ _ (by rfl) w2.heap.size 36 i0 _ 1 24 uSpans hi0' hz0 hz1 hz2 rfl (by omega) (.slice la vs.length lc) vs.length vs (by rfl) (HF.out.2.1.1.alloc _)
                       ⟨wr.heap.size, 0, none⟩ 1 1 [.slice ao i i] (by rfl) (by rfl) (World.news_of_block (cs := #[.slice ao i i]) (t := 36) (fr := (0, 0)) (heap_alloc_new wr _)) (by simp [Value.oneCell'])
                       (by omega) (by unfold maxLen; omega) (by omega) (by simp; omega) (wr.heap.size + 1) (by simp) ?_
                     intro gg cap w6 hown2 hgrow hat hlt2
                     have HQ := hd (Happ.out gg cap w6 _ hown2 hgrow hat)
                     clear hown2 hgrow hat hlt2)
                  go_roundg gf0
                  case measure => omega
                  case rel => exact ⟨vs ++ [Value.slice ao i i], by go_num, by omega, by omega, hd HQ.out.1, hd (by have := HQ.out.2; rw [List.length_append, List.length_singleton] at this; exact this)⟩
        · have hltI : ¬ (vs.length : Int) < 4 := by omega
          obtain ⟨la, lc, rfl⟩ := owns_shape HL.out.1
          go_wp2_with fail
          obtain ⟨wq, hwq⟩ : ∃ wq, wq = wr := ⟨_, rfl⟩
          subst hwq
          go_loopg [16, 17, 84] 5 (fun f _ _ kv wx => ∃ k : Nat, kv = .int .i64 k ∧ k ≤ vs.length ∧ vs.length < k + f ∧ Hid (Below wq.heap.size wq wx))
          case atStart => exact ⟨0, rfl, by omega, by omega, hd (Below.refl _ _)⟩
          case round =>
            obtain ⟨k, rfl, hk2, hkf2, HBx⟩ := hrel
            by_cases hkl : k < vs.length
            · have hkI : (k : Int) < (vs.length : Int) := by omega
              have hk0 : (0 : Int) ≤ (k : Int) := by omega
              have hk9 : (k : Int) ≤ 4 := by omega
              obtain ⟨gl, rfl⟩ := owns_some HL.out.1 (by omega)
              have hvk := List.getElem?_eq_getElem hkl
              have HLk := hd (HL.out.2 k _ hvk).1
              have hcl : wr.cell? ⟨gl, k, none⟩ = some vs[k] := (HBx.out.cell (World.block_lt_of_cell? _ _ (owns_cell HL.out.1 k _ hvk))).trans (owns_cell HL.out.1 k _ hvk)
              clear hvk
              generalize vs[k] = vk at *
              obtain ⟨gf1, rfl⟩ : ∃ gf, gk = gf + 1 := ⟨gk - 1, by omega⟩
              have Hsh := hd (HLk.out.shape)
              obtain ⟨ao, ca, rfl, hca⟩ := Hsh.out
              have hcaI : (ca : Int) ≤ 9223372036854775807 := by omega
              clear Hsh
              have HLw : Hid (∀ wz, Below wr.heap.size wr wz → Lst wz w2.heap.size k (.slice ao ca ca)) := hd (fun wz hz => (HLk.out.same (fun g hg => HBx.out.block g (HLk.out.lt hg).2)).same (fun g hg => hz.block g (Nat.lt_of_lt_of_le (HLk.out.lt hg).2 HBx.out.size)))
              have HBx2 : Hid (∀ wz, Below wr.heap.size wr wz → Below wq.heap.size wq wz) := hd (fun wz hz => HBx.out.trans (hz.mono HBx.out.size))
              clear HLk
              go_wp2_with fail
              go_loopg [19, 91] (ca + 1) (fun f _ jv wx => ∃ j : Nat, jv = .int .i64 j ∧ j ≤ ca ∧ ca < j + f ∧ Hid (Below wr.heap.size wr wx))
              case atStart => exact ⟨0, rfl, by omega, by omega, hd (Below.refl _ _)⟩
              case round =>
                obtain ⟨j, rfl, hj, hjf, HBj⟩ := hrel
                by_cases hjl : j < ca
                · have hjI : (j : Int) < (ca : Int) := by omega
                  have hj0 : (0 : Int) ≤ (j : Int) := by omega
                  obtain ⟨gq, rfl, hq1, hq2⟩ := (HLw.out _ HBj.out).at hjl
                  clear HLw HBx2
                  obtain ⟨gf2, rfl⟩ : ∃ gf, gk = gf + 1 := ⟨gk - 1, by omega⟩
                  go_wp2_with fail
                  go_roundg gf2
                  case measure => omega
                  case rel => exact ⟨j + 1, by go_num, by omega, by omega, hd (HBj.out.trans ((alloc_below _ _).mono HBj.out.size))⟩
                · have hjI : ¬ (j : Int) < (ca : Int) := by omega
                  have HQ := hd (HBx2.out _ HBj.out)
                  clear HLw HBx2
                  go_wp2_with fail
                  go_roundg gf1
                  case measure => omega
                  case rel => exact ⟨k + 1, by go_num, by omega, by omega, HQ⟩
            · have hkI : ¬ (k : Int) < (vs.length : Int) := by omega
              go_wp2
              go_ret
              exact ⟨rfl, Hb.out.trans ((HB.out.trans (HBx.out.mono HB.out.size)).mono Hb.out.size)⟩
  · go_wp2
    go_ret
    exact ⟨rfl, Hb.out⟩
end Go.Proofs.YtldiemjlpnachaaDoor
