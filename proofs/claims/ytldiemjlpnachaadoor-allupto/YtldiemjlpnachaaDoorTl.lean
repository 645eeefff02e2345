import Derived.Test.YtldiemjlpnachaaDoorAw
namespace Go.Proofs.YtldiemjlpnachaaDoor
open Go.RowKit
def Two(w:World)(q:Nat×Nat×List UInt8):Prop:=
 (parseT q.2.2).1=0∧(∃w0,ProgIn w0 w q.1 q.2.2)∧w.cell? ⟨q.2.1,1,none⟩=some (.int .i64 (parseT q.2.2).2.2)∧RPat w q.2.1 q.2.2
theorem Two.below{w w':World}{q:Nat×Nat×List UInt8}(h:Two w q)(hb:Below w.heap.size w w'):Two w' q:=by
 obtain⟨h1,⟨w0,h2⟩,h3,h4⟩:=h
 exact⟨h1,⟨w0,h2.below hb⟩,(hb.cell (World.block_lt_of_cell? w _ h3)).trans h3,h4.below hb⟩
def Pbl(w:World)(t:TypeId)(v:Value):Prop:=∀k,v.ownBlock=some k→(∃p,w.cell? ⟨k,0,none⟩=some (.pointer p))∧∃c fr,w.heap[k]?=some (.cells c t fr)
theorem Two.kept{w w':World}{q:Nat×Nat×List UInt8}{t:TypeId}{v:Value}(h:Two w q)(hp:Pbl w t v)(ht:t=22∨t=23)(hG:v.ownBlock≠some 0)(hk:∀k,k<w.heap.size→some k≠v.ownBlock→w'.heap[k]?=w.heap[k]?):Two w' q:=by
 obtain⟨h1,⟨w0,h2⟩,h3,H,d,ao,rn,rc,its,r1,r2,r3,r4,r5⟩:=h
 have gk:w'.heap[q.1]?=w.heap[q.1]?:=hk _ (by exact World.block_lt_of_cell? w _ h2.c0) (fun e=>by obtain⟨⟨p,hp1⟩,_⟩:=hp _ e.symm;rw[h2.c0]at hp1;cases hp1)
 have hk2:w'.heap[q.2.1]?=w.heap[q.2.1]?:=hk _ (by exact World.block_lt_of_cell? w _ h3) (fun e=>by obtain⟨⟨p,hp1⟩,_⟩:=hp _ e.symm;rw[r3]at hp1;cases hp1)
 have cg:∀i,w'.cell? ⟨q.1,i,none⟩=w.cell? ⟨q.1,i,none⟩:=fun i=>World.cell?_of_block gk
 have ch:∀i,w'.cell? ⟨q.2.1,i,none⟩=w.cell? ⟨q.2.1,i,none⟩:=fun i=>World.cell?_of_block hk2
 obtain⟨cv,c1,c2,c3,⟨css,ho,hs⟩,c4⟩:=h2.code
 refine⟨h1,⟨w0,(cg 0).trans h2.c0,(cg 3).trans h2.c3,⟨cv,(cg 1).trans c1,(cg 2).trans c2,(cg 4).trans c3,⟨css,owns_same ho (fun b hb=>hk b (ho.lt b hb).2 (fun e=>?_)),hs⟩,c4⟩,h2.le⟩,(ch 1).trans h3,H,d,ao,rn,rc,its,fun g arr hg=>?_,r2,(ch 0).trans r3,fun i hi=>(ch _).trans (r4 i hi),r5⟩
 ·obtain⟨_,c,fr,hc⟩:=hp b e.symm
  obtain⟨_,⟨rfl,_⟩|⟨g',cap,cur,rfl,_,x2,_⟩⟩:=ho
  ·cases hb
  ·cases hb
   simp only at hc
   rw[hc]at x2
   have:t=119:=by injection x2 with x2;injection x2
   rcases ht with ht|ht<;>rw[ht]at this<;>exact absurd this (by decide)
 ·obtain⟨t',fr',hg'⟩:=r1 g arr hg
  refine⟨t',fr',(hk g (r1.lt hg) (fun e=>?_)).trans hg'⟩
  obtain⟨_,c,fr,hc⟩:=hp g e.symm
  rw[hc]at hg'
  rcases t' with t'|⟨t',rfl⟩
  ·have:t=bif t' then 123 else 96:=by injection hg' with x2;injection x2
   cases t'<;>rcases ht with ht|ht<;>rw[ht]at this<;>exact absurd this (by decide)
  ·exact hG e.symm
def ptr1(q:Nat×Nat×List UInt8):Value:= .pointer (some ⟨q.1,0,none⟩)
def ptr2(q:Nat×Nat×List UInt8):Value:= .pointer (some ⟨q.2.1,0,none⟩)
def Pls(w:World)(B t:Nat)(v:Value)(f:Nat×Nat×List UInt8→Value)(qs:List (Nat×Nat×List UInt8)):Prop:=w.ownsRow B t 1 v qs.length (qs.map f)∧(qs= []→v= .slice none 0 0)
theorem Pls.pbl{w:World}{B t:Nat}{v:Value}{f:Nat×Nat×List UInt8→Value}{qs:List (Nat×Nat×List UInt8)}(h:Pls w B t v f qs)(hf:∀q,∃p,f q= .pointer p):Pbl w t v:=by
 intro k hk
 obtain⟨⟨h1,⟨rfl,_⟩|⟨g,cap,cur,rfl,h2,h3,h4,h5,h6,h7⟩⟩,he⟩:=h
 ·cases hk
 ·cases hk
  refine⟨?_,cur,_,h3⟩
  cases qs with
  |nil=>have:=he rfl;cases this
  |cons q r=>
   obtain⟨p,hp⟩:=hf q
   refine⟨p,?_⟩
   have:=congrArg (fun l=>l[0]?) h7
   simp only[List.map_cons,List.getElem?_cons_zero,List.length_cons]at this
   rw[List.getElem?_take,if_pos (by omega),Array.getElem?_toList]at this
   simp[World.cell?,h3,this,hp]
theorem Pls.push{w6:World}{B t gg cap:Nat}{f:Nat×Nat×List UInt8→Value}{qs:List (Nat×Nat×List UInt8)}{q:Nat×Nat×List UInt8}(hown:w6.ownsRow B t 1 (.slice (some ⟨gg,0,none⟩) (qs.length+1) cap) (qs.length+1) (qs.map f++ [f q])):
  Pls w6 B t (.slice (some ⟨gg,0,none⟩) (qs.length+1) cap) f (qs++ [q]):=⟨by rw[List.length_append,List.length_singleton,List.map_append];exact hown,fun e=>by simp at e⟩
theorem Pls.kept{w w':World}{B t t':Nat}{v u:Value}{f:Nat×Nat×List UInt8→Value}{qs:List (Nat×Nat×List UInt8)}(h:Pls w B t v f qs)(hp:Pbl w t' u)(hne:t≠t')(hk:∀k,k<w.heap.size→some k≠u.ownBlock→w'.heap[k]?=w.heap[k]?):Pls w' B t v f qs:=by
 refine⟨owns_same h.1 (fun k e=>hk k (h.1.lt k e).2 (fun e2=>?_)),h.2⟩
 obtain⟨_,c,fr,hc⟩:=hp k e2.symm
 obtain⟨⟨h1,⟨rfl,_⟩|⟨g,cap,cur,rfl,h2,h3,h4⟩⟩,he⟩:=h
 ·cases e
 ·cases e
  simp only at hc
  rw[hc]at h3
  have:t'=t:=by injection h3 with x2;injection x2
  exact hne this.symm
theorem Pls.below{w w':World}{B t:Nat}{v:Value}{f:Nat×Nat×List UInt8→Value}{qs:List (Nat×Nat×List UInt8)}(h:Pls w B t v f qs)(hb:Below w.heap.size w w'):Pls w' B t v f qs:=⟨owns_same h.1 (fun k e=>hb.block k (h.1.lt k e).2),h.2⟩
theorem info_pprog:(Tryd.prog.info? 22).map (fun i=>(i.zero,i.size,i.bytes))=some (some (.pointer none),1,8):=by kernel_rfl
theorem info_ppat:(Tryd.prog.info? 23).map (fun i=>(i.zero,i.size,i.bytes))=some (some (.pointer none),1,8):=by kernel_rfl
theorem uPprog:Tryd.prog.underlying 44=some (.slice 22):=by kernel_rfl
theorem uPpat:Tryd.prog.underlying 45=some (.slice 23):=by kernel_rfl
theorem tgroups_any(w:World)(g n:Nat)(h:w.cell? ⟨g,0,none⟩=some (.int .i64 n)):Calls Tryd.prog 15 #[.pointer (some ⟨g,0,none⟩)] w fun e w'=>e= .returned (.int .i64 n)∧w'=w:=by
 go_enter Tryd.func15,Tryd.ntmps15
 go_wp2
 go_ret
 exact⟨rfl,rfl⟩
theorem push_any{w w3 w6:World}{t t' gg cap xc:Nat}{xa:Option Addr}{u:Value}{f f':Nat×Nat×List UInt8→Value}{qs qs2 Q:List (Nat×Nat×List UInt8)}{q:Nat×Nat×List UInt8}{o:Obj}(hG:0<w.heap.size)(HB:Below w.heap.size w w3)
  (HX:Pls w3 w.heap.size t (.slice xa qs.length xc) f qs)(hf:∀q,∃p,f q= .pointer p)(ht:t=22∨t=23)(hne:t'≠t)(HM:Pls w3 w.heap.size t' u f' qs2)(HT:∀q'∈Q,Two w3 q')
  (hown:w6.ownsRow w.heap.size t 1 (.slice (some ⟨gg,0,none⟩) (qs.length+1) cap) (qs.length+1) (qs.map f++ [f q]))(hgrow:(w3.alloc o).grownBy w6 (Value.slice xa qs.length xc).ownBlock):
  Below w.heap.size w w6∧Pls w6 w.heap.size t (.slice (some ⟨gg,0,none⟩) (qs.length+1) cap) f (qs++ [q])∧Pls w6 w.heap.size t' u f' qs2∧∀q'∈Q,Two w6 q':=by
 have hp:=HX.pbl hf
 have hk:∀k,k<w3.heap.size→some k≠(Value.slice xa qs.length xc).ownBlock→w6.heap[k]?=w3.heap[k]?:=fun k h1 h2=>(hgrow.block k (by simp;omega) h2).trans (Below.heap_alloc _ _ _ h1)
 have hs:=HB.size
 have hs6:=hgrow.size
 simp only[World.size_alloc]at hs6
 exact⟨⟨hgrow.os.trans HB.os,hgrow.tape.trans HB.tape,hgrow.output.trans HB.output,by omega,fun k h1=>(hk k (by omega) (fun e=>by have:=(HX.1.lt k e.symm).1;omega)).trans (HB.block k h1)⟩,Pls.push hown,HM.kept hp hne hk,fun q' h=>(HT q' h).kept hp ht (fun e=>by have:=(HX.1.lt _ e).1;omega) hk⟩
theorem Pls.cell{w:World}{B t xg n cap k:Nat}{f:Nat×Nat×List UInt8→Value}{qs:List (Nat×Nat×List UInt8)}(h:Pls w B t (.slice (some ⟨xg,0,none⟩) n cap) f qs)(hn:n=qs.length)(hk:k<qs.length):w.cell? ⟨xg,k,none⟩=some (f qs[k]):=by
 subst hn
 exact owns_cell h.1 k _ (by rw[List.getElem?_map,List.getElem?_eq_getElem hk];rfl)
set_option maxRecDepth 100000 in
set_option maxHeartbeats 6400000 in
theorem all_law (w : World) (pa la : Option Addr) (pc lc : Nat) (ps ls : List ByteArray) (fr : Int) (hn : NamesIn w) (hc : ClsW w)
    (hpa : ∀ i (hi : i < ps.length), ∃ a, pa = some a ∧ w.cell? (a.add i) = some (.string ps[i]) ∧ ps[i].size ≤ maxLen)
    (hla : ∀ i (hi : i < ls.length), ∃ a, la = some a ∧ w.cell? (a.add i) = some (.string ls[i]) ∧ ls[i].size ≤ 1000000000)
    (hfr : fr ≤ 9223372036854775807) (hpl : ps.length ≤ maxLen) (hll : ls.length ≤ maxLen) :
    Calls Tryd.prog 8 #[.slice pa ps.length pc, .slice la ls.length lc, .int .i64 fr] w fun e w' => e = .returned (.bool true) ∧ Below w.heap.size w w' := by
  unfold maxLen at hpl hll
  have Hpa := hd hpa
  have Hla := hd hla
  have Hn := hd hn
  have Hc := hd hc
  have HG : Hid (0 < w.heap.size) := hd (by obtain ⟨c, t, fr', h, _⟩ := hc; exact (Array.getElem?_eq_some_iff.1 h).1)
  clear hpa hla hn hc
  go_enter Tryd.func8, Tryd.ntmps8
  by_cases hb1 : 1048576 < ps.length
  · have hI : (1048576 : Int) < (ps.length : Int) := by omega
    go_wp2
    go_ret
    exact ⟨rfl, Below.refl _ _⟩
  have hI : ¬ (1048576 : Int) < (ps.length : Int) := by omega
  by_cases hb2 : 1048576 < ls.length
  · have hI2 : (1048576 : Int) < (ls.length : Int) := by omega
    go_wp2
    go_ret
    exact ⟨rfl, Below.refl _ _⟩
  have hI2 : ¬ (1048576 : Int) < (ls.length : Int) := by omega
  go_wp2_with fail
  go_loopg [7, 8, 35] (ps.length + 1) (fun f xv mv iv wr => ∃ (i : Nat) (qs : List (Nat × Nat × List UInt8)), iv = .int .i64 i ∧ i ≤ ps.length ∧ ps.length < i + f ∧ qs.length ≤ i ∧ Hid (Below w.heap.size w wr) ∧ Hid (Pls wr w.heap.size 22 xv ptr1 qs) ∧ Hid (Pls wr w.heap.size 23 mv ptr2 qs) ∧ Hid (∀ q ∈ qs, Two wr q))
  case atStart => exact ⟨0, [], rfl, by omega, by omega, by simp, hd (Below.refl _ _), hd ⟨World.ownsRow_nil _ _ _ _, fun _ => rfl⟩, hd ⟨World.ownsRow_nil _ _ _ _, fun _ => rfl⟩, hd (fun q h => by cases h)⟩
  case round =>
    obtain ⟨i, qs, rfl, hi, hif, hqi, HB, HX, HM, HT⟩ := hrel
    obtain ⟨xa, xc, rfl⟩ := owns_shape HX.out.1
    obtain ⟨ma, mc, rfl⟩ := owns_shape HM.out.1
    by_cases hil : i < ps.length
    · obtain ⟨gf, rfl⟩ : ∃ gf, gk = gf + 1 := ⟨gk - 1, by omega⟩
      have hiI : (i : Int) < (ps.length : Int) := by omega
      have hi0 : (0 : Int) ≤ (i : Int) := by omega
      obtain ⟨a, rfl, hca, hsz⟩ := Hpa.out i hil
      have hcr : wr.cell? (a.add i) = some (.string ps[i]) := (HB.out.cell (World.block_lt_of_cell? _ _ hca)).trans hca
      have Hbo := hd (both2_any ps[i] wr (Hn.out.below HB.out Hn.out.lt) (Hc.out.below HB.out) hsz)
      generalize ps[i] = s at *
      clear hca
      go_wp2_with fail
      refine Hbo.out.mono ?_
      rintro e w3 ⟨hb3, hp3⟩
      have HB3 := hd (HB.out.trans (hb3.mono HB.out.size))
      have HX3 := hd (HX.out.below hb3)
      have HM3 := hd (HM.out.below hb3)
      have HT3 := hd (fun q h => (HT.out q h).below hb3)
      have hs3 := HB3.out.size
      clear hb3 Hbo HB HX HM HT
      rcases hp3 with ⟨hok, g, h, rfl, hpi, hgr, hrp⟩ | rfl
      · have HT4 : Hid (∀ q ∈ qs ++ [(g, h, s.data.toList)], Two w3 q) := hd (fun q hq => by
          rcases List.mem_append.1 hq with hq | hq
          · exact HT3.out q hq
          · rw [List.mem_singleton.1 hq]; exact ⟨hok, ⟨_, hpi⟩, hgr, hrp⟩)
        have Hap1 := hd (fun gg cap w6 o h1 h2 => push_any (w := w) (w3 := w3) (w6 := w6) (gg := gg) (cap := cap) (o := o) (q := (g, h, s.data.toList)) HG.out HB3.out HX3.out (fun q => ⟨_, rfl⟩) (.inl rfl) (by decide) HM3.out HT4.out h1 h2)
        have Hap2 : Hid (∀ (g1 c1 : Nat) (w6 : World), Below w.heap.size w w6 → Pls w6 w.heap.size 22 (.slice (some ⟨g1, 0, none⟩) (qs.length + 1) c1) ptr1 (qs ++ [(g, h, s.data.toList)]) → Pls w6 w.heap.size 23 (.slice ma qs.length mc) ptr2 qs → (∀ q ∈ qs ++ [(g, h, s.data.toList)], Two w6 q) →
            ∀ (gg cap : Nat) (w7 : World) (o : Obj), w7.ownsRow w.heap.size 23 1 (.slice (some ⟨gg, 0, none⟩) (qs.length + 1) cap) (qs.length + 1) (qs.map ptr2 ++ [ptr2 (g, h, s.data.toList)]) → (w6.alloc o).grownBy w7 (Value.slice ma qs.length mc).ownBlock →
            Below w.heap.size w w7 ∧ Pls w7 w.heap.size 23 (.slice (some ⟨gg, 0, none⟩) (qs.length + 1) cap) ptr2 (qs ++ [(g, h, s.data.toList)]) ∧ Pls w7 w.heap.size 22 (.slice (some ⟨g1, 0, none⟩) (qs.length + 1) c1) ptr1 (qs ++ [(g, h, s.data.toList)]) ∧ ∀ q ∈ qs ++ [(g, h, s.data.toList)], Two w7 q) :=
          hd (fun g1 c1 w6 b6 x6 m6 t6 gg cap w7 o h1 h2 => push_any HG.out b6 m6 (fun q => ⟨_, rfl⟩) (.inr rfl) (by decide) x6 t6 h1 h2)
        obtain ⟨i0, hi0', hz0, hz1, hz2⟩ := info_parts info_pprog
        obtain ⟨i1, hi1', hy0, hy1, hy2⟩ := info_parts info_ppat
        have hlen : (qs ++ [(g, h, s.data.toList)]).length = qs.length + 1 := by simp
        clear hok hpi hgr hrp HT3 HT4
        go_upto_region 12 with fail
        go_upto_region 13 with
          (refine wpList_append_lies _ (by rfl) _ _ _ (by rfl) w.heap.size 22 i0 _ 1 8 uPprog hi0' hz0 hz1 hz2 rfl (by omega) (.slice xa qs.length xc) qs.length (qs.map ptr1) (by rfl) (HX3.out.1.alloc _)
             ⟨w3.heap.size, 0, none⟩ 1 1 [.pointer (some ⟨g, 0, none⟩)] (by rfl) (by rfl) (World.news_of_block (cs := #[.pointer (some ⟨g, 0, none⟩)]) (t := 22) (fr := (0, 0)) (heap_alloc_new w3 _)) (by simp [Value.oneCell'])
             (by omega) (by unfold maxLen; omega) (by omega) (by simp; omega) (w3.heap.size + 1) (by simp) ?_
           intro g1 c1 w6 hown hgrow hat hlt
           have HA := hd (Hap1.out g1 c1 w6 _ hown hgrow)
           clear hown hgrow hat hlt)
        have hs6 := HA.out.1.size
        have Hap3 := hd (Hap2.out g1 c1 w6 HA.out.1 HA.out.2.1 HA.out.2.2.1 HA.out.2.2.2)
        clear Hap1 Hap2 HB3 HX3 HM3
        go_wp2_with
          (refine wpList_append_lies _ (by rfl) _ _ _ (by rfl) w.heap.size 23 i1 _ 1 8 uPpat hi1' hy0 hy1 hy2 rfl (by omega) (.slice ma qs.length mc) qs.length (qs.map ptr2) (by rfl) (HA.out.2.2.1.1.alloc _)
             ⟨w6.heap.size, 0, none⟩ 1 1 [.pointer (some ⟨h, 0, none⟩)] (by rfl) (by rfl) (World.news_of_block (cs := #[.pointer (some ⟨h, 0, none⟩)]) (t := 23) (fr := (0, 0)) (heap_alloc_new w6 _)) (by simp [Value.oneCell'])
             (by omega) (by unfold maxLen; omega) (by omega) (by simp; omega) (w6.heap.size + 1) (by simp) ?_
           intro g2 c2 w7 hown hgrow hat hlt
           have HQ := hd (Hap3.out g2 c2 w7 _ hown hgrow)
           clear hown hgrow hat hlt)
        go_roundg gf
        case measure => omega
        case rel => exact ⟨i + 1, qs ++ [(g, h, s.data.toList)], by go_num, by omega, by omega, by omega, hd HQ.out.1, hd HQ.out.2.2.1, hd HQ.out.2.1, hd HQ.out.2.2.2⟩
      · go_wp2_with fail
        go_roundg gf
        case measure => omega
        case rel => exact ⟨i + 1, qs, by go_num, by omega, by omega, by omega, HB3, HX3, HM3, HT3⟩
    · have hiI : ¬ (i : Int) < (ps.length : Int) := by omega
      have hqm : qs.length ≤ 1048576 := by omega
      have hqI : (qs.length : Int) ≤ 1048576 := by omega
      obtain ⟨wq, hwq⟩ : ∃ wq, wq = wr := ⟨_, rfl⟩
      subst hwq
      clear Hpa Hn Hc
      go_wp2_with fail
      go_loopg [60] (ls.length + 1) (fun f jv wx => ∃ j : Nat, jv = .int .i64 j ∧ j ≤ ls.length ∧ ls.length < j + f ∧ Hid (Below wq.heap.size wq wx))
      case atStart => exact ⟨0, rfl, by omega, by omega, hd (Below.refl _ _)⟩
      case round =>
        obtain ⟨j, rfl, hj, hjf, HBj⟩ := hrel
        by_cases hjl : j < ls.length
        · obtain ⟨gf1, rfl⟩ : ∃ gf, gk = gf + 1 := ⟨gk - 1, by omega⟩
          have hjI : (j : Int) < (ls.length : Int) := by omega
          have hj0 : (0 : Int) ≤ (j : Int) := by omega
          obtain ⟨a, rfl, hca, hsz⟩ := Hla.out j hjl
          have hcr : wr.cell? (a.add j) = some (.string ls[j]) := (HBj.out.cell (Nat.lt_of_lt_of_le (World.block_lt_of_cell? _ _ hca) HB.out.size)).trans ((HB.out.cell (World.block_lt_of_cell? _ _ hca)).trans hca)
          generalize ls[j] = s at *
          clear hca
          go_wp2_with fail
          go_loopg [66] (qs.length + 1) (fun f kv wx => ∃ k : Nat, kv = .int .i64 k ∧ k ≤ qs.length ∧ qs.length < k + f ∧ Hid (Below wq.heap.size wq wx))
          case atStart => exact ⟨0, rfl, by omega, by omega, HBj⟩
          case round =>
            clear HBj hcr
            obtain ⟨k, rfl, hk, hkf, HBk⟩ := hrel
            by_cases hkl : k < qs.length
            · obtain ⟨gf2, rfl⟩ : ∃ gf, gk = gf + 1 := ⟨gk - 1, by omega⟩
              have hkI : (k : Int) < (qs.length : Int) := by omega
              have hk0 : (0 : Int) ≤ (k : Int) := by omega
              obtain ⟨xg, rfl⟩ := owns_some HX.out.1 (by omega)
              obtain ⟨mg, rfl⟩ := owns_some HM.out.1 (by omega)
              have Hc1 := hd (HX.out.cell rfl hkl)
              have Hc2 := hd (HM.out.cell rfl hkl)
              have Htw := hd (HT.out _ (List.getElem_mem hkl))
              generalize qs[k] = q at *
              obtain ⟨g, h, l⟩ := q
              have HW : Hid (∀ wz, Below wq.heap.size wq wz → wz.cell? ⟨xg, k, none⟩ = some (.pointer (some ⟨g, 0, none⟩)) ∧ wz.cell? ⟨mg, k, none⟩ = some (.pointer (some ⟨h, 0, none⟩)) ∧ wz.cell? ⟨g, 0, none⟩ = some (.int .i64 (parseT l).2.2) ∧ wz.cell? ⟨h, 1, none⟩ = some (.int .i64 (parseT l).2.2) ∧ Two wz (g, h, l)) := hd (fun wz hz => by
                obtain ⟨h1, ⟨w0, h2⟩, h3, h4⟩ := Htw.out.below hz
                exact ⟨(hz.cell (World.block_lt_of_cell? _ _ Hc1.out)).trans Hc1.out, (hz.cell (World.block_lt_of_cell? _ _ Hc2.out)).trans Hc2.out, h2.c0, h3, h1, ⟨w0, h2⟩, h3, h4⟩)
              clear Hc1 Hc2 Htw
              obtain ⟨wk, hwk⟩ : ∃ wk, wk = wr := ⟨_, rfl⟩
              subst hwk
              go_wp2_with fail
              go_loopg [72] 3 (fun f jv wx => ∃ n : Nat, jv = .int .i64 n ∧ n ≤ 2 ∧ 2 < n + f ∧ Hid (Below wq.heap.size wq wx) ∧ Hid (wk.heap.size < wx.heap.size) ∧ Hid (wx.cell? ⟨wk.heap.size, 0, none⟩ = some (.int .i64 0) ∧ wx.cell? ⟨wk.heap.size, 1, none⟩ = some (.int .i64 fr)))
              case atStart => exact ⟨0, rfl, by omega, by omega, hd (HBk.out.trans ((alloc_below _ _).mono HBk.out.size)), hd (by simp), hd ⟨by simp, by simp⟩⟩
              case round =>
                obtain ⟨n, rfl, hn2, hnf, HBn, HSn, HCn⟩ := hrel
                by_cases hnl : n < 2
                · obtain ⟨gf3, rfl⟩ : ∃ gf, gk = gf + 1 := ⟨gk - 1, by omega⟩
                  have hnI : (n : Int) < 2 := by omega
                  have hn0 : (0 : Int) ≤ (n : Int) := by omega
                  obtain ⟨ct, hct, hctl⟩ : ∃ ct : Int, wr.cell? ⟨wk.heap.size, n, none⟩ = some (.int .i64 ct) ∧ ct ≤ 9223372036854775807 := by
                    rcases (show n = 0 ∨ n = 1 by omega) with rfl | rfl
                    · exact ⟨0, HCn.out.1, by omega⟩
                    · exact ⟨fr, HCn.out.2, hfr⟩
                  obtain ⟨c1, c2, c3, c4, h1, ⟨w0, h2⟩, h3, h4⟩ := HW.out _ HBn.out
                  have Hf := hd (pfind_fun w0 wr g l s ct h1 h2 (by omega))
                  have Hnx : Hid (∀ wz, Below wr.heap.size wr wz → Below wq.heap.size wq wz ∧ wk.heap.size < wz.heap.size ∧ wz.cell? ⟨wk.heap.size, 0, none⟩ = some (.int .i64 0) ∧ wz.cell? ⟨wk.heap.size, 1, none⟩ = some (.int .i64 fr)) := hd (fun wz hz =>
                    ⟨HBn.out.trans (hz.mono HBn.out.size), Nat.lt_of_lt_of_le HSn.out hz.size, (hz.cell HSn.out).trans HCn.out.1, (hz.cell HSn.out).trans HCn.out.2⟩)
                  clear c3 c4 h1 h2 h3 h4
                  go_wp2_with fail
                  refine Hf.out.mono ?_
                  rintro e w4 ⟨rfl, hb4⟩
                  obtain ⟨c1', c2', _, _, h1, _, _, h4⟩ := HW.out _ (Hnx.out _ hb4).1
                  have Hd := hd (dfind_any w4 h l s ct h1 h4 (by omega) hctl)
                  have Hb4 := hd hb4
                  clear hb4 h1 h4 c1 c2 c1' hct HBn HSn HCn Hf
                  cases hE : findI l s.data.toList ct with
                  | none =>
                    rw [hE] at Hd
                    clear hE
                    unfold resE at Hd ⊢
                    go_wp2_with fail
                    refine Hd.out.mono ?_
                    rintro e w5 ⟨rfl, hb5⟩
                    have HN := hd (Hnx.out _ (Hb4.out.trans (hb5.mono Hb4.out.size)))
                    clear hb5 c2'
                    go_wp2_with fail
                    go_roundg gf3
                    case measure => omega
                    case rel => exact ⟨n + 1, by go_num, by omega, by omega, hd HN.out.1, hd HN.out.2.1, hd HN.out.2.2⟩
                  | some x =>
                    obtain ⟨ra, rb⟩ := x
                    rw [hE] at Hd
                    clear hE
                    unfold resE at Hd ⊢
                    go_wp2_with fail
                    refine Hd.out.mono ?_
                    rintro e w5 ⟨rfl, hb5⟩
                    have HN := hd (Hnx.out _ (Hb4.out.trans (hb5.mono Hb4.out.size)))
                    clear hb5 c2'
                    go_wp2_with fail
                    go_roundg gf3
                    case measure => omega
                    case rel => exact ⟨n + 1, by go_num, by omega, by omega, hd HN.out.1, hd HN.out.2.1, hd HN.out.2.2⟩
                · have hnI : ¬ (n : Int) < 2 := by omega
                  obtain ⟨c1, c2, c3, c4, h1, ⟨w0, h2⟩, h3, h4⟩ := HW.out _ HBn.out
                  have Ha := hd (all_any w0 wr.drew g l s h1 (h2.below ⟨rfl, rfl, rfl, Nat.le_refl _, fun _ _ => rfl⟩) (by omega))
                  have Hd := hd (fun w4 (hb4 : Below wr.heap.size wr.drew w4) => dall_any w4 h l s h1 (h4.below (w := wr) ⟨hb4.os, hb4.tape, hb4.output, hb4.size, hb4.block⟩) (by omega))
                  have HL := hd (allE_count (p := l) (s := s.data.toList) (s.size + 1) 0)
                  have HGr := hd (fun w4 (hb4 : Below wr.heap.size wr.drew w4) => (HW.out w4 (HBn.out.trans (by exact (show Below wr.heap.size wr w4 from ⟨hb4.os, hb4.tape, hb4.output, hb4.size, hb4.block⟩).mono HBn.out.size))))
                  clear h1 h2 h3 h4
                  go_upto_region 29 with fail
                  go_region_held3 (fun w' => w'.cell? ⟨xg, k, none⟩ = some (.pointer (some ⟨g, 0, none⟩)) ∧ w'.cell? ⟨mg, k, none⟩ = some (.pointer (some ⟨h, 0, none⟩)) ∧ w'.cell? ⟨h, 1, none⟩ = some (.int .i64 (parseT l).2.2)) (go_keep)
                    (first
                      | (go_at_call 19; refine Ha.out.mono ?_; rintro e w4 ⟨va, rfl, hb4, ho4⟩; obtain ⟨e1, e2, e3, e4, _⟩ := HGr.out w4 hb4)
                      | (go_at_call 20; refine (Hd.out w4 hb4).mono ?_; rintro e w5 ⟨vb, rfl, hb5, ho5⟩; have hb6 := hb4.trans (hb5.mono hb4.size); obtain ⟨i1, i2, i3, i4, _⟩ := HGr.out w5 hb6)
                      | (go_at_call 18; refine (same_any w5 (owns_same ho4 (fun k hk => hb5.block k (ho4.lt k hk).2)) ho5 (by have := HL.out; omega)).mono ?_; rintro e w6 ⟨rfl, nn, rfl⟩)
                      | (go_at_call 15; refine (tgroups_any _ g _ (by exact i3)).mono ?_; rintro e w7 ⟨rfl, hw7⟩; have hw8 := hw7.symm; clear hw7; subst hw8))
                  have HF : Hid (Below wq.heap.size wq (w5.drewN nn)) := hd (HBn.out.trans ((show Below wr.heap.size wr (w5.drewN nn) from ⟨hb6.os, hb6.tape, hb6.output, hb6.size, hb6.block⟩).mono HBn.out.size))
                  clear hb4 ho4 hb5 ho5 hb6 e1 e2 e3 e4 i1 i2 i3 i4
                  go_wp2_with fail
                  go_roundg gf2
                  case measure => omega
                  case rel => exact ⟨k + 1, by go_num, by omega, by omega, HF⟩
            · have hkI : ¬ (k : Int) < (qs.length : Int) := by omega
              go_wp2_with fail
              go_roundg gf1
              case measure => omega
              case rel => exact ⟨j + 1, by go_num, by omega, by omega, HBk⟩
        · have hjI : ¬ (j : Int) < (ls.length : Int) := by omega
          have hF : Below w.heap.size w wr := HB.out.trans (HBj.out.mono HB.out.size)
          go_wp2
          go_ret
          exact ⟨rfl, hF⟩
end Go.Proofs.YtldiemjlpnachaaDoor
