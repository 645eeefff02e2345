import Derived.Test.YtldiemjlpnachaaGreatDoorBks
import Derived.Test.YtldiemjlpnachaaGreatDoorTwin
set_option maxHeartbeats 3200000
namespace Go.Proofs.YtldiemjlpnachaaGreatDoor
open Go.RowKit
theorem starts_any(s t:ByteArray)(i:Nat)(w:World)(hs:s.size<=1000)(ht:t.size<=1000)(hp:0<t.size)(h1:i<=2000):
  Calls Tryz.prog 31 #[.string s,.int .i64 i,.string t] w fun e w'=>e= .returned (.bool (sw s.data.toList i t.data.toList))/\w'=w:=by
 go_enter Tryz.func31,Tryz.ntmps31
 go_wp2
 all_goals go_ret
 all_goals first
  |exact⟨ret_bool (by rw[sw_len _ _ _ (by simp;omega) (by simpa using hp)]),rfl⟩
  |exact⟨ret_bool (sw_yes s t i),rfl⟩
theorem starts_b(s t:ByteArray)(i:Int)(p:Nat)(tl:List UInt8)(b:Bool)(w:World)(hip:i=p)(htl:t.data.toList=tl)(hb:sw s.data.toList p tl=b)(hs:s.size<=1000)(ht:t.size<=1000)(hp:0<t.size)(h1:p<=2000):
  Calls Tryz.prog 31 #[.string s,.int .i64 i,.string t] w fun e w'=>e= .returned (.bool b)/\w'=w:=by
 subst hip htl hb
 exact starts_any s t p w hs ht hp h1
theorem nmB_sw(l:List UInt8)(i:Nat):nmB l i=(sw l i [91,58]||(sw l i [91,46]||sw l i [91,61])):=by
 rw[sw2,sw2,sw2]
 unfold nmB
 simp only[show(91:UInt8).toNat=91 from rfl,show(58:UInt8).toNat=58 from rfl,show(46:UInt8).toNat=46 from rfl,show(61:UInt8).toNat=61 from rfl]
 generalize decide (i+1<l.length)=a
 generalize (ch l i==91)=b
 generalize (ch l (i+1)==58)=c
 generalize (ch l (i+1)==46)=d
 generalize (ch l (i+1)==61)=e
 cases a<;>cases b<;>cases c<;>cases d<;>cases e<;>rfl
theorem named_b(s:ByteArray)(i:Int)(p:Nat)(b:Bool)(w:World)(hip:i=p)(hb:nmB s.data.toList p=b)(hs:s.size<=1000)(h1:p<=2000):
  Calls Tryz.prog 96 #[.string s,.int .i64 i] w fun e w'=>e= .returned (.bool b)/\w'=w:=by
 subst hip hb
 have Hn:=hd (nmB_sw s.data.toList p)
 have Hs:=hd (starts_b s)
 cases h0:sw s.data.toList p [91,58]
 ·cases h2:sw s.data.toList p [91,46]
  ·cases h3:sw s.data.toList p [91,61]
   all_goals
    replace h0:=hd h0
    replace h2:=hd h2
    replace h3:=hd h3
    go_enter Tryz.func96,Tryz.ntmps96
    go_wp2_with (go_at_call 31;first|(refine(starts_b s _ _ p [91,58] _ _ rfl rfl h0.out hs (by decide) (by decide) h1).mono ?_;rintro e w' ⟨rfl,rfl⟩)|(refine(starts_b s _ _ p [91,46] _ _ rfl rfl h2.out hs (by decide) (by decide) h1).mono ?_;rintro e w' ⟨rfl,rfl⟩)|(refine(starts_b s _ _ p [91,61] _ _ rfl rfl h3.out hs (by decide) (by decide) h1).mono ?_;rintro e w' ⟨rfl,rfl⟩))
    go_ret
    exact⟨ret_bool (by rw[Hn.out,h0.out,h2.out,h3.out];rfl),rfl⟩
  ·replace h0:=hd h0
   replace h2:=hd h2
   go_enter Tryz.func96,Tryz.ntmps96
   go_wp2_with (go_at_call 31;first|(refine(starts_b s _ _ p [91,58] _ _ rfl rfl h0.out hs (by decide) (by decide) h1).mono ?_;rintro e w' ⟨rfl,rfl⟩)|(refine(starts_b s _ _ p [91,46] _ _ rfl rfl h2.out hs (by decide) (by decide) h1).mono ?_;rintro e w' ⟨rfl,rfl⟩))
   go_ret
   exact⟨ret_bool (by rw[Hn.out,h0.out,h2.out];rfl),rfl⟩
 ·replace h0:=hd h0
  go_enter Tryz.func96,Tryz.ntmps96
  go_wp2_with (go_at_call 31;(refine(starts_b s _ _ p [91,58] _ _ rfl rfl h0.out hs (by decide) (by decide) h1).mono ?_;rintro e w' ⟨rfl,rfl⟩))
  go_ret
  exact⟨ret_bool (by rw[Hn.out,h0.out];rfl),rfl⟩
theorem spans_b(s:ByteArray)(i:Int)(p:Nat)(b:Bool)(w:World)(hip:i=p)(hb:spB s.data.toList p=b)(h1:p<=2000):
  Calls Tryz.prog 97 #[.string s,.int .i64 i] w fun e w'=>e= .returned (.bool b)/\w'=w:=by
 subst hip hb
 go_enter Tryz.func97,Tryz.ntmps97
 go_wp2
 all_goals go_ret
 all_goals refine⟨ret_bool ?_,rfl⟩
 all_goals go_light
 all_goals first|(rw[spB_out (by omega)];done)|(rw[spB_in (by omega)];simp_all;done)|(rw[spB_in (by omega)];simp_all;omega)
def DigV(l:List UInt8)(a:Nat)(v:Value):Prop:=(∃n k,num l a=some (n,k)/\v= .tuple #[.int .i64 n,.int .i64 k])\/(num l a=none/\∃k:Nat,k<=2000/\v= .tuple #[.int .i64 (-1),.int .i64 k])
theorem digits_any(s:ByteArray)(i:Int)(a:Nat)(w:World)(hia:i=a)(hs:s.size<=1000)(h1:a<=1000):
  Calls Tryz.prog 53 #[.string s,.int .i64 i] w fun e w'=>(∃v,e= .returned v/\DigV s.data.toList a v)/\w'=w:=by
 subst hia
 have Hl:=hd (len_data s)
 go_enter Tryz.func53,Tryz.ntmps53
 go_wp2
 go_loop [1,6] (fun p m=>∃(k:Nat) (n:Int),p= .int .i64 k/\m= .int .i64 n/\n<=20/\a<=k/\k<=2000/\((n= -1/\k=a)\/(∃n':Nat,n=n'/\a<k/\Hid (numGo s.data.toList (s.data.toList.length-k) n' k=numGo s.data.toList (s.data.toList.length-a) 0 a)))) (fun p _=>2000-(intOf p).toNat)
 case atStart=>exact⟨a,-1,rfl,rfl,by omega,by omega,by omega,.inl ⟨rfl,rfl⟩⟩
 case round=>
  obtain⟨k,n,rfl,rfl,hn,hak,hk,HG⟩:=hrel
  obtain⟨m,hm0,hm,HM⟩:∃m:Nat,m<=20/\((n= -1/\m=0)\/(n=m/\a<k))/\Hid (numGo s.data.toList (s.data.toList.length-k) m k=numGo s.data.toList (s.data.toList.length-a) 0 a):=by
   rcases HG with⟨e,rfl⟩|⟨n',e,hlt,HG⟩
   ·exact⟨0,by omega,.inl ⟨e,rfl⟩,hd rfl⟩
   ·exact⟨n',by omega,.inr ⟨e,hlt⟩,HG⟩
  have Hka:Hid (n= -1->k=a):=by
   rcases HG with⟨e,e2⟩|⟨n',e,hlt,HG⟩
   ·exact hd fun _=>e2
   ·exact hd fun h=>by omega
  clear HG
  by_cases hlt:k<s.size
  ·by_cases hdg:48<=(s[k].toNat:Int)/\(s[k].toNat:Int)<=57
   ·obtain⟨hd1,hd2⟩:=hdg
    by_cases hbig:20<(m:Int)*10+((s[k].toNat:Int)-48)
    ·have Hz:=hd (rn_big hlt hd1 hd2 hbig HM.out rfl)
     rcases hm with⟨rfl,rfl⟩|⟨rfl,hakl⟩
     ·omega
     ·go_wp2
      go_ret2
      exact⟨⟨_,rfl,.inr ⟨Hz.out,k,by omega,rfl⟩⟩,rfl⟩
    ·have Hz:=hd (rn_more hlt hd1 hd2 hbig HM.out)
     rcases hm with⟨rfl,rfl⟩|⟨rfl,hakl⟩
     ·go_wp2
      go_round
      case rel=>exact⟨k+1,(((0*10+(s[k].toNat-48):Nat)):Int),by go_num,by go_num,by omega,by omega,by omega,.inr ⟨_,rfl,by omega,Hz⟩⟩
      case measure=>simp[intOf];omega
     ·go_wp2
      go_round
      case rel=>exact⟨k+1,(((m*10+(s[k].toNat-48):Nat)):Int),by go_num,by go_num,by omega,by omega,by omega,.inr ⟨_,rfl,by omega,Hz⟩⟩
      case measure=>simp[intOf];omega
   ·have hno:(s[k].toNat:Int)<48\/57<(s[k].toNat:Int):=by omega
    rcases hm with⟨rfl,rfl⟩|⟨rfl,hakl⟩
    ·have Hz:=hd (rn_same hlt hno (Hka.out rfl) HM.out rfl)
     clear hdg
     rcases hno with h|h
     all_goals go_wp2
     all_goals go_ret2
     all_goals exact⟨⟨_,rfl,.inr ⟨Hz.out,k,by omega,rfl⟩⟩,rfl⟩
    ·have Hz:=hd (rn_stop hlt hno (by omega) HM.out rfl)
     clear hdg
     rcases hno with h|h
     all_goals go_wp2
     all_goals go_ret2
     all_goals exact⟨⟨_,rfl,.inl ⟨m,k,Hz.out,rfl⟩⟩,rfl⟩
  ·rcases hm with⟨rfl,rfl⟩|⟨rfl,hakl⟩
   ·have Hz:=hd (rn_same' hlt (Hka.out rfl) HM.out rfl)
    go_wp2
    go_ret2
    exact⟨⟨_,rfl,.inr ⟨Hz.out,k,by omega,rfl⟩⟩,rfl⟩
   ·have Hz:=hd (rn_stop' hlt (by omega) HM.out rfl)
    go_wp2
    go_ret2
    exact⟨⟨_,rfl,.inl ⟨m,k,Hz.out,rfl⟩⟩,rfl⟩
def rivV:Option (Int×Int×Nat)->Value
 |some (m,n,k)=> .tuple #[.int .i64 m,.int .i64 n,.int .i64 k]
 |none=> .tuple #[.int .i64 0,.int .i64 0,.int .i64 (-1)]
theorem sw3_split(l:List UInt8)(j:Nat):sw l j [44,92,125]=(sw l j [44]&&sw l (j+1) [92,125]):=by
 rw[sw_cons,sw1]
theorem interval_any(s:ByteArray)(i:Int)(a:Nat)(w:World)(hia:i=a)(hs:s.size<=60)(h1:a<=200):
  Calls Tryz.prog 32 #[.string s,.int .i64 i] w fun e w'=>e= .returned (rivV (ivl s.data.toList a))/\w'=w:=by
 subst hia
 have Hl:=hd (len_data s)
 cases hn:num s.data.toList a with
 |none=>
  have Hv:Hid (ivl s.data.toList a=none):=by unfold ivl;rw[hn];exact hd rfl
  have Hn:=hd hn
  clear hn
  have Hd:Hid (∀w i,i=((a:Nat):Int)->Calls Tryz.prog 53 #[.string s,.int .i64 i] w fun e w'=>(∃k:Nat,k<=2000/\e= .returned (.tuple #[.int .i64 (-1),.int .i64 k]))/\w'=w):=hd fun w i hi=>(digits_any s _ a w hi (by omega) (by omega)).mono (by
   rintro e w' ⟨⟨v,rfl,hv⟩,rfl⟩
   rcases hv with⟨n,k,h,_⟩|⟨_,k,hk,rfl⟩
   ·rw[Hn.out]at h;cases h
   ·exact⟨⟨k,hk,rfl⟩,rfl⟩)
  go_enter Tryz.func32,Tryz.ntmps32
  go_wp2_with (go_at_call 53;refine(Hd.out _ _ (by omega)).mono ?_;rintro e w' ⟨⟨k,hk,rfl⟩,rfl⟩)
  exact bodyPost_ret (v:=rivV none) (by simp[results,Tryz.results32,go_sem,rivV]) rfl ⟨by rw[Hv.out],rfl⟩
 |some p=>
  obtain⟨m,j⟩:=p
  have hb:=num_bd hn
  rw[Hl.out]at hb
  have Hd:Hid (∀w i,i=((a:Nat):Int)->Calls Tryz.prog 53 #[.string s,.int .i64 i] w fun e w'=>e= .returned (.tuple #[.int .i64 m,.int .i64 j])/\w'=w):=hd fun w i hi=>(digits_any s _ a w hi (by omega) (by omega)).mono (by
   rintro e w' ⟨⟨v,rfl,hv⟩,rfl⟩
   rcases hv with⟨n,k,h,rfl⟩|⟨h,_⟩
   ·rw[hn]at h;cases h;exact⟨rfl,rfl⟩
   ·rw[hn]at h;cases h)
  have Hn:=hd hn
  clear hn
  cases hc:sw s.data.toList j [44]
  ·have Hc:=hd hc
   have H3:Hid (sw s.data.toList j [44,92,125]=false):=hd (by rw[sw3_split,hc];rfl)
   clear hc
   cases hz:sw s.data.toList j [92,125]
   all_goals
    have Hz:=hd hz
    clear hz
    go_enter Tryz.func32,Tryz.ntmps32
    go_wp2_with (first
     |(go_at_call 53;refine(Hd.out _ _ (by omega)).mono ?_;rintro e w' ⟨rfl,rfl⟩)
     |(go_at_call 31;refine(starts_b s _ _ j [44] _ _ (by omega) rfl Hc.out (by omega) (by decide) (by decide) (by omega)).mono ?_;rintro e w' ⟨rfl,rfl⟩)
     |(go_at_call 31;refine(starts_b s _ _ j [92,125] _ _ (by omega) rfl Hz.out (by omega) (by decide) (by decide) (by omega)).mono ?_;rintro e w' ⟨rfl,rfl⟩))
   ·exact bodyPost_ret (v:=rivV none) (by simp[results,Tryz.results32,go_sem,rivV]) rfl ⟨by unfold ivl;rw[Hn.out];simp[H3.out,Hc.out,Hz.out],rfl⟩
   ·exact bodyPost_ret (v:=rivV (some (m,m,j+2))) (by simp[results,Tryz.results32,go_sem,rivV]) rfl ⟨by unfold ivl;rw[Hn.out];simp[H3.out,Hc.out,Hz.out],rfl⟩
  ·have Hc:=hd hc
   clear hc
   cases hz:sw s.data.toList (j+1) [92,125]
   ·have Hz:=hd hz
    have H3:Hid (sw s.data.toList j [44,92,125]=false):=hd (by rw[sw3_split,hz];simp)
    clear hz
    cases hn2:num s.data.toList (j+1)with
    |none=>
     have Hv:Hid (ivl s.data.toList a=none):=by unfold ivl;rw[Hn.out];simp[H3.out,Hc.out,hn2,Hid]
     have Hd2:Hid (∀w i,i=((j+1:Nat):Int)->Calls Tryz.prog 53 #[.string s,.int .i64 i] w fun e w'=>(∃k:Nat,k<=2000/\e= .returned (.tuple #[.int .i64 (-1),.int .i64 k]))/\w'=w):=hd fun w i hi=>(digits_any s _ (j+1) w hi (by omega) (by omega)).mono (by
      rintro e w' ⟨⟨v,rfl,hv⟩,rfl⟩
      rcases hv with⟨n,k,h,_⟩|⟨_,k,hk,rfl⟩
      ·rw[hn2]at h;cases h
      ·exact⟨⟨k,hk,rfl⟩,rfl⟩)
     clear hn2
     go_enter Tryz.func32,Tryz.ntmps32
     go_wp2_with (first
      |(go_at_call 53;refine(Hd.out _ _ (by omega)).mono ?_;rintro e w' ⟨rfl,rfl⟩)
      |(go_at_call 53;refine(Hd2.out _ _ (by omega)).mono ?_;rintro e w' ⟨⟨k,hk,rfl⟩,rfl⟩)
      |(go_at_call 31;refine(starts_b s _ _ j [44] _ _ (by omega) rfl Hc.out (by omega) (by decide) (by decide) (by omega)).mono ?_;rintro e w' ⟨rfl,rfl⟩)
      |(go_at_call 31;refine(starts_b s _ _ (j+1) [92,125] _ _ (by omega) rfl Hz.out (by omega) (by decide) (by decide) (by omega)).mono ?_;rintro e w' ⟨rfl,rfl⟩))
     exact bodyPost_ret (v:=rivV none) (by simp[results,Tryz.results32,go_sem,rivV]) rfl ⟨by rw[Hv.out],rfl⟩
    |some q=>
     obtain⟨n,k⟩:=q
     have hb2:=num_bd hn2
     rw[Hl.out]at hb2
     have Hd2:Hid (∀w i,i=((j+1:Nat):Int)->Calls Tryz.prog 53 #[.string s,.int .i64 i] w fun e w'=>e= .returned (.tuple #[.int .i64 n,.int .i64 k])/\w'=w):=hd fun w i hi=>(digits_any s _ (j+1) w hi (by omega) (by omega)).mono (by
      rintro e w' ⟨⟨v,rfl,hv⟩,rfl⟩
      rcases hv with⟨n',k',h,rfl⟩|⟨h,_⟩
      ·rw[hn2]at h;cases h;exact⟨rfl,rfl⟩
      ·rw[hn2]at h;cases h)
     by_cases hlt:n<m
     ·have Hv:Hid (ivl s.data.toList a=none):=by unfold ivl;rw[Hn.out];simp[H3.out,Hc.out,hn2,hlt,Hid]
      clear hn2
      have hlt':(n:Int)<m:=by omega
      go_enter Tryz.func32,Tryz.ntmps32
      go_wp2_with (first
       |(go_at_call 53;refine(Hd.out _ _ (by omega)).mono ?_;rintro e w' ⟨rfl,rfl⟩)
       |(go_at_call 53;refine(Hd2.out _ _ (by omega)).mono ?_;rintro e w' ⟨rfl,rfl⟩)
       |(go_at_call 31;refine(starts_b s _ _ j [44] _ _ (by omega) rfl Hc.out (by omega) (by decide) (by decide) (by omega)).mono ?_;rintro e w' ⟨rfl,rfl⟩)
       |(go_at_call 31;refine(starts_b s _ _ (j+1) [92,125] _ _ (by omega) rfl Hz.out (by omega) (by decide) (by decide) (by omega)).mono ?_;rintro e w' ⟨rfl,rfl⟩))
      exact bodyPost_ret (v:=rivV none) (by simp[results,Tryz.results32,go_sem,rivV]) rfl ⟨by rw[Hv.out],rfl⟩
     ·have hlt':¬(n:Int)<m:=by omega
      cases hy:sw s.data.toList k [92,125]
      all_goals
       have Hv:Hid (ivl s.data.toList a=if sw s.data.toList k [92,125]=true then some ((m:Int),(n:Int),k+2)else none):=by unfold ivl;rw[Hn.out];simp[H3.out,Hc.out,hn2,hlt,Hid]
       have Hy:=hd hy
       clear hn2 hy hlt
       go_enter Tryz.func32,Tryz.ntmps32
       go_wp2_with (first
        |(go_at_call 53;refine(Hd.out _ _ (by omega)).mono ?_;rintro e w' ⟨rfl,rfl⟩)
        |(go_at_call 53;refine(Hd2.out _ _ (by omega)).mono ?_;rintro e w' ⟨rfl,rfl⟩)
        |(go_at_call 31;refine(starts_b s _ _ j [44] _ _ (by omega) rfl Hc.out (by omega) (by decide) (by decide) (by omega)).mono ?_;rintro e w' ⟨rfl,rfl⟩)
        |(go_at_call 31;refine(starts_b s _ _ (j+1) [92,125] _ _ (by omega) rfl Hz.out (by omega) (by decide) (by decide) (by omega)).mono ?_;rintro e w' ⟨rfl,rfl⟩)
        |(go_at_call 31;refine(starts_b s _ _ k [92,125] _ _ (by omega) rfl Hy.out (by omega) (by decide) (by decide) (by omega)).mono ?_;rintro e w' ⟨rfl,rfl⟩))
      ·exact bodyPost_ret (v:=rivV none) (by simp[results,Tryz.results32,go_sem,rivV]) rfl ⟨by rw[Hv.out,Hy.out];rfl,rfl⟩
      ·exact bodyPost_ret (v:=rivV (some (m,n,k+2))) (by simp[results,Tryz.results32,go_sem,rivV]) rfl ⟨by rw[Hv.out,Hy.out];rfl,rfl⟩
   ·have Hz:=hd hz
    have H3:Hid (sw s.data.toList j [44,92,125]=true):=hd (by rw[sw3_split,Hc.out,hz];rfl)
    clear hz
    go_enter Tryz.func32,Tryz.ntmps32
    go_wp2_with (first
     |(go_at_call 53;refine(Hd.out _ _ (by omega)).mono ?_;rintro e w' ⟨rfl,rfl⟩)
     |(go_at_call 31;refine(starts_b s _ _ j [44] _ _ (by omega) rfl Hc.out (by omega) (by decide) (by decide) (by omega)).mono ?_;rintro e w' ⟨rfl,rfl⟩)
     |(go_at_call 31;refine(starts_b s _ _ (j+1) [92,125] _ _ (by omega) rfl Hz.out (by omega) (by decide) (by decide) (by omega)).mono ?_;rintro e w' ⟨rfl,rfl⟩))
    exact bodyPost_ret (v:=rivV (some (m,-1,j+3))) (by simp[results,Tryz.results32,go_sem,rivV];omega) rfl ⟨by unfold ivl;rw[Hn.out];simp[H3.out],rfl⟩
end Go.Proofs.YtldiemjlpnachaaGreatDoor
