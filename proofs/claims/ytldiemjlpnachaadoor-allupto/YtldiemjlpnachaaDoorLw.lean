import Derived.Test.YtldiemjlpnachaaDoorFd
namespace Go.Proofs.YtldiemjlpnachaaDoor
open Go.RowKit
def Both2(w w':World)(l:List UInt8)(e:Ending):Prop:=
 Below w.heap.size w w'∧(((parseT l).1=0∧∃g h,e= .returned (.tuple #[.pointer (some ⟨g,0,none⟩),.pointer (some ⟨h,0,none⟩),.bool true])∧ProgIn w w' g l∧w'.cell? ⟨h,1,none⟩=some (.int .i64 (parseT l).2.2)∧RPat w' h l)∨
  e= .returned (.tuple #[.pointer none,.pointer none,.bool true]))
set_option maxHeartbeats 1600000 in
theorem both2_any(s:ByteArray)(w:World)(hn:NamesIn w)(hc:ClsW w)(hm:s.size≤maxLen):
  Calls Tryd.prog 14 #[.string s] w fun e w'=>Both2 w w' s.data.toList e:=by
 have Hp:=hd (compile_any s w hn hm)
 have Hc:=hd hc
 clear hn hc
 go_enter Tryd.func14,Tryd.ntmps14
 go_wp2_with fail
 refine Hp.out.mono ?_
 rintro e w2 ⟨hb,hp⟩
 have Hr:=hd (read_all s w2 (Hc.out.below hb) hm)
 rcases hp with⟨h0,g,hg,rfl,hpi⟩|⟨h0,rfl⟩
 ·have Hpi:=hd hpi
  clear hpi
  have Hb:=hd hb
  clear hb
  go_wp2_with fail
  refine Hr.out.mono ?_
  rintro e w3 ⟨hb3,hp3⟩
  rcases hp3 with⟨_,h,_,rfl,hh⟩|⟨h1,rfl⟩
  ·have HF:Hid (Both2 w w3 s.data.toList (.returned (.tuple #[.pointer (some ⟨g,0,none⟩),.pointer (some ⟨h,0,none⟩),.bool true]))):=
    hd ⟨Hb.out.trans (hb3.mono Hb.out.size),.inl ⟨h0,g,h,rfl,Hpi.out.below hb3,hh⟩⟩
   clear hb3 hh h0
   go_wp2
   go_ret3
   exact HF.out
  ·exact absurd h0 h1
 ·have Hb:=hd hb
  clear hb
  go_wp2_with fail
  refine Hr.out.mono ?_
  rintro e w3 ⟨hb3,hp3⟩
  rcases hp3 with⟨h1,h,_,rfl,hh⟩|⟨h1,rfl⟩
  ·exact absurd h1 h0
  ·have HF:Hid (Both2 w w3 s.data.toList (.returned (.tuple #[.pointer none,.pointer none,.bool true]))):=
    hd ⟨Hb.out.trans (hb3.mono Hb.out.size),.inr rfl⟩
   clear hb3 h0 h1
   go_wp2
   go_ret3
   exact HF.out
theorem RPat.below{w w':World}{g:Nat}{l:List UInt8}(h:RPat w g l)(hb:Below w.heap.size w w'):RPat w' g l:=by
 obtain⟨H,d,ao,rn,rc,its,h1,h2,h3,h4,h5⟩:=h
 refine⟨H,d,ao,rn,rc,its,fun q arr hq=>?_,h2,(hb.cell (World.block_lt_of_cell? w _ h3)).trans h3,fun i hi=>(hb.cell (World.block_lt_of_cell? w _ (h4 i hi))).trans (h4 i hi),h5⟩
 obtain⟨t,fr,ht⟩:=h1 q arr hq
 exact⟨t,fr,(hb.block q (h1.lt hq)).trans ht⟩
end Go.Proofs.YtldiemjlpnachaaDoor
