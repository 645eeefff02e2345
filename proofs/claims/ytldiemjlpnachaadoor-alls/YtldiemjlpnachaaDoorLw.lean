import Derived.Test.YtldiemjlpnachaaDoorFd
namespace Go.Proofs.YtldiemjlpnachaaDoor
open Go.RowKit
def Both2(w w':World)(l:List UInt8)(e:Ending):Prop:=
 Below w.heap.size w w'∧(((parseT l).1=0∧∃g h,e= .returned (.tuple #[.pointer (some ⟨g,0,none⟩),.pointer (some ⟨h,0,none⟩),.bool true])∧ProgIn w w' g l∧w'.cell? ⟨h,1,none⟩=some (.int .i64 (parseT l).2.2)∧RPat w' h l)∨
  e= .returned (.tuple #[.pointer none,.pointer none,.bool true]))
set_option maxHeartbeats 1600000 in
theorem both2_any(s:ByteArray)(w:World)(hn:NamesIn w)(hc:ClsW w)(hm:s.size≤maxLen):
  Calls Tryd.prog 14 #[.string s] w fun e w'=>Both2 w w' s.data.toList e:=by
 have Hp:=hd (compile_any s w hn hm)
 have Hc:=hd hc
 clear hn hc
 go_enter Tryd.func14,Tryd.ntmps14
 go_wp2_with fail
 refine Hp.out.mono ?_
 rintro e w2 ⟨hb,hp⟩
 have Hr:=hd (read_all s w2 (Hc.out.below hb) hm)
 rcases hp with⟨h0,g,hg,rfl,hpi⟩|⟨h0,rfl⟩
 ·have Hpi:=hd hpi
  clear hpi
  have Hb:=hd hb
  clear hb
  go_wp2_with fail
  refine Hr.out.mono ?_
  rintro e w3 ⟨hb3,hp3⟩
  rcases hp3 with⟨_,h,_,rfl,hh⟩|⟨h1,rfl⟩
  ·have HF:Hid (Both2 w w3 s.data.toList (.returned (.tuple #[.pointer (some ⟨g,0,none⟩),.pointer (some ⟨h,0,none⟩),.bool true]))):=
    hd ⟨Hb.out.trans (hb3.mono Hb.out.size),.inl ⟨h0,g,h,rfl,Hpi.out.below hb3,hh⟩⟩
   clear hb3 hh h0
   go_wp2
   go_ret3
   exact HF.out
  ·exact absurd h0 h1
 ·have Hb:=hd hb
  clear hb
  go_wp2_with fail
  refine Hr.out.mono ?_
  rintro e w3 ⟨hb3,hp3⟩
  rcases hp3 with⟨h1,h,_,rfl,hh⟩|⟨h1,rfl⟩
  ·exact absurd h1 h0
  ·have HF:Hid (Both2 w w3 s.data.toList (.returned (.tuple #[.pointer none,.pointer none,.bool true]))):=
    hd ⟨Hb.out.trans (hb3.mono Hb.out.size),.inr rfl⟩
   clear hb3 h0 h1
   go_wp2
   go_ret3
   exact HF.out
theorem RPat.below{w w':World}{g:Nat}{l:List UInt8}(h:RPat w g l)(hb:Below w.heap.size w w'):RPat w' g l:=by
 obtain⟨H,d,ao,rn,rc,its,h1,h2,h3,h4,h5⟩:=h
 refine⟨H,d,ao,rn,rc,its,fun q arr hq=>?_,h2,(hb.cell (World.block_lt_of_cell? w _ h3)).trans h3,fun i hi=>(hb.cell (World.block_lt_of_cell? w _ (h4 i hi))).trans (h4 i hi),h5⟩
 obtain⟨t,fr,ht⟩:=h1 q arr hq
 exact⟨t,fr,(hb.block q (h1.lt hq)).trans ht⟩
set_option maxRecDepth 100000 in
set_option maxHeartbeats 3200000 in
theorem finds_any(p s:ByteArray)(fr:Int)(w:World)(hn:NamesIn w)(hc:ClsW w)(hm:p.size≤maxLen)(hsm:s.size≤maxLen)(hfr:fr≤9223372036854775807):
  Calls Tryd.prog 5 #[.string p,.string s,.int .i64 fr] w fun e w'=>e= .returned (.bool true)∧Below w.heap.size w w':=by
 have Hp:=hd (both2_any p w hn hc hm)
 unfold maxLen at hsm
 clear hn hc
 go_enter Tryd.func5,Tryd.ntmps5
 go_wp2_with fail
 refine Hp.out.mono ?_
 rintro e w2 ⟨hb,hp⟩
 have Hb:=hd hb
 clear hb
 rcases hp with⟨hok,g,h,rfl,hpi,_,hrp⟩|rfl
 ·by_cases hbig:1048576<s.size
  ·have hbI:(1048576:Int)<(s.size:Int):=by omega
   clear hpi hrp hok
   go_wp2
   go_ret
   exact⟨rfl,Hb.out⟩
  ·have hbI:¬(1048576:Int)<(s.size:Int):=by omega
   have Hf:=hd (pfind_fun w w2 g p.data.toList s fr hok hpi (by omega))
   have Hrp:=hd hrp
   have Hok:=hd hok
   clear hpi hrp hok
   go_wp2_with fail
   refine Hf.out.mono ?_
   rintro e w3 ⟨rfl,hb3⟩
   have Hd:=hd (dfind_any w3 h p.data.toList s fr Hok.out (Hrp.out.below hb3) (by omega) hfr)
   have Hb3:=hd (Hb.out.trans (hb3.mono Hb.out.size))
   clear hb3
   cases hE:findI p.data.toList s.data.toList fr with
   |none=>
    rw[hE]at Hd
    clear hE
    unfold resE at Hd ⊢
    go_wp2_with fail
    refine Hd.out.mono ?_
    rintro e w4 ⟨rfl,hb4⟩
    have Hb4:=hd (Hb3.out.trans (hb4.mono Hb3.out.size))
    clear hb4
    go_wp2
    go_ret
    exact⟨rfl,Hb4.out⟩
   |some x=>
    obtain⟨a,c⟩:=x
    rw[hE]at Hd
    clear hE
    unfold resE at Hd ⊢
    go_wp2_with fail
    refine Hd.out.mono ?_
    rintro e w4 ⟨rfl,hb4⟩
    have Hb4:=hd (Hb3.out.trans (hb4.mono Hb3.out.size))
    clear hb4
    go_wp2
    go_ret
    exact⟨rfl,Hb4.out⟩
 ·go_wp2
  go_ret
  exact⟨rfl,Hb.out⟩
end Go.Proofs.YtldiemjlpnachaaDoor
