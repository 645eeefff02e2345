import Derived.Test.YtldiemjlpnachaaDoorLw
namespace Go.Proofs.YtldiemjlpnachaaDoor
open Go.RowKit
set_option maxRecDepth 100000 in
set_option maxHeartbeats 3200000 in
theorem dall_any (w : World) (g : Nat) (l : List UInt8) (s : ByteArray) (hok : (parseT l).1 = 0) (hP : RPat w g l) (hs : s.size ≤ 1000000000) :
    Calls Tryd.prog 20 #[.pointer (some ⟨g, 0, none⟩), .string s] w fun e w' => allP l s w w' e := by
  have hs1 : (s.size : Int) ≤ 1000000000 := by omega
  have HP := hd hP
  have Hok := hd hok
  have Hl := hd (len_data s)
  clear hP hok
  go_enter Tryd.func20, Tryd.ntmps20
  go_wp2_with fail
  go_loopg [5, 6] (s.size + 2) (fun f sv fv wr => ∃ (fr : Nat) (acc : List (Nat × Nat)) (ua : Option Addr) (uc : Nat), fv = .int .i64 fr ∧ sv = .slice ua acc.length uc ∧ fr ≤ s.size + 1 ∧ s.size + 1 < fr + f ∧ acc.length ≤ fr ∧ Hid (Below w.heap.size w wr) ∧ Hid (wr.ownsRow w.heap.size 41 2 (.slice ua acc.length uc) acc.length (spc acc)) ∧ Hid (acc ++ allE l s.data.toList (s.size + 1) fr = allE l s.data.toList (s.size + 1) 0))
  case atStart => exact ⟨0, [], none, 0, rfl, rfl, Nat.zero_le _, by omega, Nat.le_refl _, hd (Below.refl _ _), hd (World.ownsRow_nil _ _ _ _), hd rfl⟩
  case round =>
    obtain ⟨fr, acc, ua, uc, rfl, rfl, hfr, hf, hacc, HB, HO, HE⟩ := hrel
    have hfr0 : (0 : Int) ≤ (fr : Int) := by omega
    by_cases hle : fr ≤ s.size
    · have hle1 : (fr : Int) ≤ (s.size : Int) := by omega
      have Hfd : Hid (Calls Tryd.prog 17 #[.pointer (some ⟨g, 0, none⟩), .string s, .int .i64 fr] wr fun e w' => e = .returned (resE (findE l s.data.toList fr)) ∧ Below wr.heap.size wr w') := hd (by
        have := dfind_any wr g l s fr Hok.out (HP.out.below HB.out) hs (by omega)
        rw [findI_nat _ _ (by rw [Hl.out]; exact hle)] at this
        exact this)
      have Hun : Hid (allE l s.data.toList (s.size + 1) fr = (match findE l s.data.toList fr with | none => [] | some (i, j) => if i < j then (i, j) :: allE l s.data.toList (s.size + 1) j else allE l s.data.toList (s.size + 1) (i + 1))) := hd (by
        rw [allE, if_pos (by rw [Hl.out]; exact hle)]
        cases he : findE l s.data.toList fr with
        | none => rfl
        | some x =>
          obtain ⟨i, j⟩ := x
          obtain ⟨h1, h2, h3⟩ := findE_in Hok.out (by rw [Hl.out]; exact hle) he
          simp only
          split
          · rw [allE_fuel Hok.out s.size (s.size + 1) j (by rw [Hl.out]; omega) (by rw [Hl.out]; omega)]
          · rw [allE_fuel Hok.out s.size (s.size + 1) (i + 1) (by rw [Hl.out]; omega) (by rw [Hl.out]; omega)])
      have Hin := hd (fun i j => findE_in (fr := fr) (a := i) (b := j) Hok.out (s := s.data.toList) (by rw [Hl.out]; exact hle))
      go_wp2_with fail
      refine Hfd.out.mono ?_
      rintro e1 w1 ⟨rfl, hb1⟩
      have HB1 := hd (HB.out.trans (hb1.mono HB.out.size))
      have HO1 : Hid (w1.ownsRow w.heap.size 41 2 (.slice ua acc.length uc) acc.length (spc acc)) := hd (owns_same HO.out (fun k hk => hb1.block k (HO.out.lt k hk).2))
      clear hb1 Hfd
      cases he : findE l s.data.toList fr with
      | none =>
        have HF : Hid (allP l s w w1 (.returned (.slice ua acc.length uc))) := hd (by
          have h := HE.out
          rw [Hun.out, he, List.append_nil] at h
          refine ⟨_, rfl, HB1.out, ?_⟩
          rw [← h]
          exact HO1.out)
        clear he Hun Hin HE HO HB HO1 HB1
        unfold resE
        go_wp2
        go_ret
        exact HF.out
      | some x =>
        obtain ⟨i, j⟩ := x
        obtain ⟨h1, h2, h3⟩ := Hin.out i j he
        rw [Hl.out] at h3
        have hi0 : (0 : Int) ≤ (i : Int) := by omega
        have hi1 : (i : Int) ≤ 1000000000 := by omega
        have hj1 : (j : Int) ≤ 1000000000 := by omega
        by_cases hij : i < j
        · have hijI : ((i : Int) == (j : Int)) = false := beq_eq_false_iff_ne.2 (by omega)
          have HE1 : Hid ((acc ++ [(i, j)]) ++ allE l s.data.toList (s.size + 1) j = allE l s.data.toList (s.size + 1) 0) := hd (by
            have h := HE.out
            rw [Hun.out, he] at h
            simp only at h
            rw [if_pos hij] at h
            rw [List.append_assoc]
            exact h)
          have hsz1 := HB1.out.size
          obtain ⟨i0, hi0', hz0, hz1, hz2⟩ := info_parts info_span
          clear he Hun Hin HE HO HB
          unfold resE
          go_wp2_with
            (refine wpList_append_lies _ (by rfl) _ _ _ (by rfl) w.heap.size 41 i0 _ 2 16 uSpan hi0' hz0 hz1 hz2 rfl (by omega) (.slice ua acc.length uc) acc.length (spc acc) (by rfl) (HO1.out.alloc _)
               ⟨w1.heap.size, 0, none⟩ 1 1 [.int .i64 i, .int .i64 j] (by rfl) (by rfl) (World.news_of_block (cs := #[.int .i64 i, .int .i64 j]) (t := 41) (fr := (0, 0)) (heap_alloc_new w1 _)) (by simp [Value.oneCell'])
               (by omega) (by unfold maxLen; omega) (by omega) (by simp; omega) (w1.heap.size + 1) (by simp) ?_
             intro gg cap w2 hown2 hgrow hat hlt
             have HB2 : Hid (Below w.heap.size w w2) := hd ⟨hgrow.os.trans HB1.out.os, hgrow.tape.trans HB1.out.tape, hgrow.output.trans HB1.out.output, (by have := hgrow.size; simp at this; omega), fun k hk => (hgrow.block k (by simp; omega) (fun e => by have := (HO1.out.lt k e.symm).1; omega)).trans ((Below.heap_alloc _ _ _ (by omega)).trans (HB1.out.block k hk))⟩
             have HO2 : Hid (w2.ownsRow w.heap.size 41 2 (.slice (some ⟨gg, 0, none⟩) (acc ++ [(i, j)]).length cap) (acc ++ [(i, j)]).length (spc (acc ++ [(i, j)]))) := hd (by rw [spc_snoc, List.length_append, List.length_singleton]; exact hown2)
             clear hown2 hgrow hat hlt)
          go_roundg (gk - 1)
          case measure => omega
          case rel => exact ⟨j, acc ++ [(i, j)], some ⟨gg, 0, none⟩, cap, rfl, by simp, by omega, by omega, by simp; omega, HB2, HO2, HE1⟩
        · have hijI : ((i : Int) == (j : Int)) = true := beq_iff_eq.2 (by omega)
          have HE1 : Hid (acc ++ allE l s.data.toList (s.size + 1) (i + 1) = allE l s.data.toList (s.size + 1) 0) := hd (by
            have h := HE.out
            rw [Hun.out, he] at h
            simp only at h
            rw [if_neg hij] at h
            exact h)
          clear he Hun Hin HE HO HB
          unfold resE
          go_wp2
          go_roundg (gk - 1)
          case measure => omega
          case rel => exact ⟨i + 1, acc, ua, uc, by go_num, rfl, by omega, by omega, by omega, HB1, HO1, HE1⟩
    · have hle1 : ¬ (fr : Int) ≤ (s.size : Int) := by omega
      have HF : Hid (allP l s w wr (.returned (.slice ua acc.length uc))) := hd (by
        have h := HE.out
        rw [allE, if_neg (by rw [Hl.out]; exact hle), List.append_nil] at h
        refine ⟨_, rfl, HB.out, ?_⟩
        rw [← h]
        exact HO.out)
      clear HE HO HB
      go_wp2
      go_ret
      exact HF.out
section
variable {P : Program} {C : World → Prop} {a : Act} {o : Oper} {K : Act → Prop}
theorem quiet_neq(t t':TypeId)(x y:Operand)(ho:o.op= .binOp .neq t x y t')(A B:Array Value)(hx:a.eval x= .agg A)(hy:a.eval y= .agg B)(v:Bool)(hm:P.eqGuardType P.depth t=false)
  (heq:∀w,(binOp .neq t (.agg A) (.agg B)).run P w= .ok (.bool v) w)(h:K (a.put o.dst (.bool v))):o.quiet P a C K:=
 ⟨_,fun w _=>by
  unfold Oper.quietAt execOp
  simp only[ho,hx,hy,Sem.run_bind,run_eqGuard_agg w _ t x y A B hm,heq,Sem.run_pure,Result.andThen_ok]
  exact⟨rfl,rfl⟩,h⟩
end
theorem flds_aspan:∃f g,(Tryd.prog.fieldsOf 41).toList= [f,g]∧f.name≠ "_" ∧g.name≠ "_" ∧f.type=3∧g.type=3∧f.offset=0∧g.offset=1:=⟨(Tryd.prog.fieldsOf 41)[0]!,(Tryd.prog.fieldsOf 41)[1]!,by kernel_rfl,by decide+kernel,by decide+kernel,by kernel_rfl,by kernel_rfl,by kernel_rfl,by kernel_rfl⟩
theorem eq_aspan(d:Nat)(a b c e:Int)(w:World):(Op.equalIn (d+2) 41 (.agg #[.int .i64 a,.int .i64 b]) (.agg #[.int .i64 c,.int .i64 e])).run Tryd.prog w= .ok (a==c&&b==e) w:=by
 rw[run_equalIn_struct w (d+1) 41 _ _ (by kernel_rfl) (by kernel_rfl)]
 obtain⟨f,g,hl,h1,h2,h3,h4,h5,h6⟩:=flds_aspan
 rw[hl]
 refine eqf_two h1 h2 (u:= .int .i64 a) (v:= .int .i64 c) (x:= .int .i64 b) (y:= .int .i64 e) ?_ ?_ ?_ ?_ ?_ ?_
 ·rw[h3,h5];kernel_rfl
 ·rw[h3,h5];kernel_rfl
 ·rw[h3];exact run_equalIn_int w d _ _ _ _ _ und_int
 ·rw[h4,h6];kernel_rfl
 ·rw[h4,h6];kernel_rfl
 ·rw[h4];exact run_equalIn_int w d _ _ _ _ _ und_int
theorem neq_aspan(a b:Int)(w:World):(binOp .neq 41 (.agg #[.int .i64 a,.int .i64 b]) (.agg #[.int .i64 a,.int .i64 b])).run Tryd.prog w= .ok (.bool false) w:=by
 rw[run_neq_struct,show(10000:Nat)=9998+2 from rfl,eq_aspan]
 simp[Result.andThen]
theorem spc_at:∀(L:List (Nat×Nat)) (i:Nat) (hi:i<L.length),(spc L)[i*2]?=some (.int .i64 L[i].1)∧(spc L)[i*2+1]?=some (.int .i64 L[i].2)
 |x::r,0,_=>by unfold spc;simp
 |x::r,i+1,hi=>by
  have:=spc_at r i (by simpa using hi)
  unfold spc at*
  rw[List.flatMap_cons,List.getElem?_append_right (by simp;omega),List.getElem?_append_right (by simp;omega)]
  simp only[List.length_cons,List.length_nil,List.getElem_cons_succ]
  rw[show(i+1)*2-(0+1+1)=i*2 by omega,show(i+1)*2+1-(0+1+1)=i*2+1 by omega]
  exact this
set_option maxRecDepth 100000 in
set_option maxHeartbeats 1600000 in
theorem same_any{L:List (Nat×Nat)}{ba bb:Nat}{va vb:Value}(w:World)(ha:w.ownsRow ba 41 2 va L.length (spc L))(hb:w.ownsRow bb 41 2 vb L.length (spc L))(hL:L.length≤2000000000):
  Calls Tryd.prog 18 #[va,vb] w fun e w'=>e= .returned (.bool true)∧∃n,w'=w.drewN n:=by
 obtain⟨a1,c1,rfl⟩:=owns_shape ha
 obtain⟨a2,c2,rfl⟩:=owns_shape hb
 have Ha:=hd ha
 have Hb:=hd hb
 have hLI:(L.length:Int)≤2000000000:=by omega
 have hm:Tryd.prog.eqGuardType Tryd.prog.depth 41=false:=by kernel_rfl
 clear ha hb
 go_enter Tryd.func18,Tryd.ntmps18
 go_wp2
 go_loopg [5,13] (L.length+1) (fun f _ kv wr=>∃k:Nat,kv= .int .i64 k∧k≤L.length∧L.length<k+f∧∃n,wr=w.drewN n)
 case atStart=>exact⟨0,rfl,by omega,by omega,0,rfl⟩
 case round=>
  obtain⟨k,rfl,hk,hkf,n,rfl⟩:=hrel
  by_cases hlt:k<L.length
  ·obtain⟨g1,rfl⟩:=owns_some Ha.out (by omega)
   obtain⟨g2,rfl⟩:=owns_some Hb.out (by omega)
   obtain⟨s1,s2⟩:=spc_at L k hlt
   have x1:=owns_cell Ha.out _ _ s1
   have x2:=owns_cell Ha.out _ _ s2
   have y1:=owns_cell Hb.out _ _ s1
   have y2:=owns_cell Hb.out _ _ s2
   have hkI:(k:Int)<(L.length:Int):=by omega
   have hk0:(0:Int)≤(k:Int):=by omega
   generalize L[k].1=p at*
   generalize L[k].2=q at*
   have Hne:=hd (neq_aspan p q)
   clear s1 s2
   obtain⟨gf,rfl⟩:∃gf,gk=gf+1:=⟨gk-1,by omega⟩
   go_wp2
   refine wp_region_quiet_lit (by kernel_rfl) (by kernel_rfl) ?_
   repeat(first
    |(go_big_quiet_want;refine quiet_neq 41 41 (.tmp 19) (.tmp 23) rfl #[.int .i64 p,.int .i64 q] #[.int .i64 p,.int .i64 q] (by rfl) (by rfl) _ hm Hne.out ?_;go_big_quiet_on;simp only[Act.put,List.setIfInBounds_toArray,List.set_cons_zero,List.set_cons_succ])
    |go_big_quiet_step (fail))
   refine wpQuiet_nil ?_
   intro _ hw'
   obtain⟨nq,hw''⟩:=hw'
   subst hw''
   go_wp2
   go_roundg gf
   case measure=>omega
   case rel=>exact⟨k+1,by go_num,by omega,by omega,n+nq,rfl⟩
  ·go_wp2
   go_ret
   exact⟨rfl,n,rfl⟩
end Go.Proofs.YtldiemjlpnachaaDoor
namespace Go.Proofs.YtldiemjlpnachaaDoor
open Go.RowKit
theorem allE_count{p s:List UInt8}:∀(f fr:Nat),(allE p s f fr).length≤f
 |0,_=>Nat.le_refl _
 |f+1,fr=>by
  unfold allE
  split
  ·split
   ·exact Nat.zero_le _
   ·split
    ·have:= @allE_count p s f;simp only[List.length_cons];exact Nat.succ_le_succ (this _)
    ·exact Nat.le_succ_of_le (allE_count f _)
  ·exact Nat.zero_le _
end Go.Proofs.YtldiemjlpnachaaDoor
