/- . -/
import Derived.Test.YtidhpmcmbooaoaaGreatDoorR08UtfFirst
import Derived.Test.YtidhpmcmbooaoaaGreatDoorR16UtfRest
import Derived.Test.YtidhpmcmbooaoaaGreatDoorR15UtfConv
import Derived.Test.YtidhpmcmbooaoaaGreatDoorR00UtfPlain
import Derived.Laws.BytesArg
set_option linter.unusedSimpArgs false
set_option linter.unusedVariables false
namespace Go.Proofs.YtidhpmcmbooaoaaGreatDoor
namespace Utf
open Go.RowKit
def Ints (w:World) (a:Option Addr) (len:Nat) (zs:List Int):Prop :=
 len=zs.length/\(0<len->∃ b off,a=some ⟨b,off,none⟩/\b<w.heap.size/\∀ i,i<len->w.cell? ⟨b,off+i,none⟩=some (.int .i64 (zs.getD i 0)))
theorem add_plain (b off i:Nat):(⟨b,off,none⟩:Addr).add i=⟨b,off+i,none⟩:=by unfold Addr.add;split<;>simp_all
theorem areSigns_any (a:Option Addr) (len cap:Nat) (zs:List Int) (w:World) (hz:Ints w a len zs) (hl:len<=17592186044416) :
  Calls Tryz.prog 149 #[.slice a len cap] w fun e w'=>e=.returned (.bool (allS zs))/\w=w':=by
 have HZ:Hid (Ints w a len zs):=hz;have HL:Hid (len=zs.length):=hz.1;clear hz;go_enter Tryz.func149,Tryz.ntmps149;go_wp2
 go_loop [7] (fun i=>∃ k:Nat,k<=len/\i=.int .i64 k/\allS (zs.take k)=true) (fun i=>len-(intOf i).toNat)
 case atStart=>exact⟨0,Nat.zero_le _,rfl,rfl⟩
 case round =>
  obtain⟨k,hk,rfl,ha⟩:=hrel;have HA:Hid (allS (zs.take k)=true):=ha;clear ha;by_cases hlt:k<len
  ·obtain⟨b,off,rfl,hb,hc⟩:=HZ.out.2 (by omega);have hck:=hc k hlt;obtain⟨n,hn⟩:∃ n,n=zs.getD k 0:=⟨_,rfl⟩;rw[<-hn]at hck;have HN:Hid (n=zs.getD k 0):=hn;clear hn hc;cases hs:sgn n
   ·go_wp2_with (first | (go_at_call 119;refine(isSign_any _ _).mono ?_;rintro e w' ⟨rfl,rfl⟩));go_ret;exact⟨by rw[allS_false zs k (by rw[<-HL.out];exact hlt) (by rw[<-HN.out];exact hs)];rfl,rfl⟩
   ·go_wp2_with (first | (go_at_call 119;refine(isSign_any _ _).mono ?_;rintro e w' ⟨rfl,rfl⟩));go_round
    case rel=>exact⟨k+1,by omega,by go_num,by rw[allS_take zs k (by rw[<-HL.out];exact hlt),HA.out,<-HN.out,hs];rfl⟩
    case measure=>simp[intOf];omega
  ·go_wp2;go_ret;have e:zs.take k=zs:=List.take_of_length_le (by rw[<-HL.out];omega);exact⟨by rw[<-e,HA.out];rfl,rfl⟩
set_option maxHeartbeats 1000000 in
theorem appendSigns_any (a:Option Addr) (len cap:Nat) (zs:List Int) (w:World) (hz:Ints w a len zs) (hl:len<=17592186044416) (hs:allS zs=true) :
  Calls Tryz.prog 150 #[.slice none 0 0,.slice a len cap] w fun e w'=>∃ v,e=.returned v/\w'.ownsRow w.heap.size 5 1 v (bytes zs).length ((bytes zs).map (Value.int .u8))/\Below w.heap.size w w':=by
 have HZ:Hid (Ints w a len zs):=hz;have HL:Hid (len=zs.length):=hz.1;have HS:Hid (allS zs=true):=hs;clear hz hs;obtain⟨i0,hi,hz0,hz1,hz2⟩:=info_parts Tryz.info5;go_enter Tryz.func150,Tryz.ntmps150;go_wp2
 go_loopw [0,9] (fun v i wr=>∃ k:Nat,k<=len/\i=.int .i64 k/\wr.ownsRow w.heap.size 5 1 v (bytes (zs.take k)).length ((bytes (zs.take k)).map (Value.int .u8))/\Below w.heap.size w wr) (fun _ i _=>len-(intOf i).toNat)
 case atStart=>exact⟨0,Nat.zero_le _,rfl,World.ownsRow_nil _ _ _ _,Below.refl _ _⟩
 case round =>
  obtain⟨k,hk,rfl,hown,hbe⟩:=hrel;by_cases hlt:k<len
  ·obtain⟨b,off,rfl,hb,hc⟩:=HZ.out.2 (by omega);have hck:=(hbe.cell (p:=⟨b,off+k,none⟩) hb).trans (hc k hlt);have hkz:k<zs.length:=by rw[<-HL.out];exact hlt
   have hbl:=bytes_len (zs.take k);have hbl2:(bytes (zs.take k)).length<=4*k:=by have:=List.length_take_le k zs;omega
   have HBT:Hid (bytes (zs.take (k+1))=bytes (zs.take k)++byt (zs.getD k 0)):=bytes_take zs k hkz;obtain⟨n,hn⟩:∃ n,n=zs.getD k 0:=⟨_,rfl⟩
   have hsg:sgn n=true:=by
    cases hf:sgn n
    ·have:=allS_false zs k hkz (by rw[<-hn];exact hf);rw[HS.out]at this;cases this
    ·rfl
   have hn0:0<=n/\n<=1114111:=by
    unfold sgn inR at hsg;simp at hsg;omega
   obtain⟨hn0,hn1⟩:=hn0;rw[<-hn]at hck HBT;clear hn hc hsg hkz hbl HL HZ HS;generalize bytes (zs.take k)=bs at *;have r0:restV n 0=128+n % 64:=rfl;have r1:restV n 1=128+n / 64 % 64:=rfl;have r2:restV n 2=128+n / 4096 % 64:=rfl;by_cases c1:n<128
   ·have hw1:wid n=1:=by unfold wid;rw[if_pos c1]
    have HBY:Hid (byt n=[n]):=by unfold byt Hid;rw[if_pos c1]
    go_wp2_with (first | (go_at_call 120;refine(width_any _ _).mono ?_;rintro e w' ⟨rfl,rfl⟩) | (at_builtin;refine wpList_append_own _ rfl _ _ 51 rfl w.heap.size 5 i0 (.int .u8 0) 1 1 Tryz.underlying51 hi hz0 hz1 hz2 rfl (by decide) _ _ _ rfl (hown.alloc _) ⟨wr.heap.size,0,none⟩ 1 1 ([n].map (Value.int .u8)) rfl rfl (news_cells _ _ _) (news_one _) ?_ ?_ ?_ ?_))
    ·unfold maxLen;omega
    ·omega
    ·have:=hbe.size;simp;omega
    intro v' w1 hown' hgrow _;obtain⟨R1,R2⟩:=step (news:=[n]) hown hbe hown' hgrow rfl;clear hown' hgrow hown hbe hck hw1;go_wp2;go_roundw
    case rel=>exact⟨k+1,by omega,by go_num,by rw[HBT.out,HBY.out];exact R1,R2⟩
    case measure=>simp[intOf];omega
   by_cases c2:n<2048
   ·have hw2:wid n=2:=by unfold wid;rw[if_neg c1,if_pos c2]
    have HBY:Hid (byt n=[192+n / 64,128+n % 64]):=by unfold byt Hid;rw[if_neg c1,if_pos c2]
    go_wp2_with (first | (go_at_call 120;refine(width_any _ _).mono ?_;rintro e w' ⟨rfl,rfl⟩) | (go_at_call 178;refine(rest_any n _ hn0 hn1 (by decide) (by decide) _).mono ?_;rintro e w' ⟨rfl,rfl⟩) | (at_builtin;refine wpList_append_own _ rfl _ _ 51 rfl w.heap.size 5 i0 (.int .u8 0) 1 1 Tryz.underlying51 hi hz0 hz1 hz2 rfl (by decide) _ _ _ rfl (hown.alloc _) ⟨wr.heap.size,0,none⟩ 2 2 ([192+n / 64,128+n % 64].map (Value.int .u8)) rfl rfl (news_cells _ _ _) (news_one _) ?_ ?_ ?_ ?_))
    ·unfold maxLen;omega
    ·omega
    ·have:=hbe.size;simp;omega
    intro v' w1 hown' hgrow _;obtain⟨R1,R2⟩:=step (news:=[192+n / 64,128+n % 64]) hown hbe hown' hgrow rfl;clear hown' hgrow hown hbe hck r0 r1 r2 hw2;go_wp2;go_roundw
    case rel=>exact⟨k+1,by omega,by go_num,by rw[HBT.out,HBY.out];exact R1,R2⟩
    case measure=>simp[intOf];omega
   by_cases c3:n<65536
   ·have hw2:wid n=3:=by unfold wid;rw[if_neg c1,if_neg c2,if_pos c3]
    have HBY:Hid (byt n=[224+n / 4096,128+n / 64 % 64,128+n % 64]):=by unfold byt Hid;rw[if_neg c1,if_neg c2,if_pos c3]
    go_wp2_with (first | (go_at_call 120;refine(width_any _ _).mono ?_;rintro e w' ⟨rfl,rfl⟩) | (go_at_call 178;refine(rest_any n _ hn0 hn1 (by decide) (by decide) _).mono ?_;rintro e w' ⟨rfl,rfl⟩) | (at_builtin;refine wpList_append_own _ rfl _ _ 51 rfl w.heap.size 5 i0 (.int .u8 0) 1 1 Tryz.underlying51 hi hz0 hz1 hz2 rfl (by decide) _ _ _ rfl (hown.alloc _) ⟨wr.heap.size,0,none⟩ 3 3 ([224+n / 4096,128+n / 64 % 64,128+n % 64].map (Value.int .u8)) rfl rfl (news_cells _ _ _) (news_one _) ?_ ?_ ?_ ?_))
    ·unfold maxLen;omega
    ·omega
    ·have:=hbe.size;simp;omega
    intro v' w1 hown' hgrow _;obtain⟨R1,R2⟩:=step (news:=[224+n / 4096,128+n / 64 % 64,128+n % 64]) hown hbe hown' hgrow rfl;clear hown' hgrow hown hbe hck r0 r1 r2 hw2;go_wp2;go_roundw
    case rel=>exact⟨k+1,by omega,by go_num,by rw[HBT.out,HBY.out];exact R1,R2⟩
    case measure=>simp[intOf];omega
   ·have hw2:wid n=4:=by unfold wid;rw[if_neg c1,if_neg c2,if_neg c3]
    have HBY:Hid (byt n=[240+n / 262144,128+n / 4096 % 64,128+n / 64 % 64,128+n % 64]):=by unfold byt Hid;rw[if_neg c1,if_neg c2,if_neg c3]
    go_wp2_with (first | (go_at_call 120;refine(width_any _ _).mono ?_;rintro e w' ⟨rfl,rfl⟩) | (go_at_call 178;refine(rest_any n _ hn0 hn1 (by decide) (by decide) _).mono ?_;rintro e w' ⟨rfl,rfl⟩) | (at_builtin;refine wpList_append_own _ rfl _ _ 51 rfl w.heap.size 5 i0 (.int .u8 0) 1 1 Tryz.underlying51 hi hz0 hz1 hz2 rfl (by decide) _ _ _ rfl (hown.alloc _) ⟨wr.heap.size,0,none⟩ 4 4 ([240+n / 262144,128+n / 4096 % 64,128+n / 64 % 64,128+n % 64].map (Value.int .u8)) rfl rfl (news_cells _ _ _) (news_one _) ?_ ?_ ?_ ?_))
    ·unfold maxLen;omega
    ·omega
    ·have:=hbe.size;simp;omega
    intro v' w1 hown' hgrow _;obtain⟨R1,R2⟩:=step (news:=[240+n / 262144,128+n / 4096 % 64,128+n / 64 % 64,128+n % 64]) hown hbe hown' hgrow rfl;clear hown' hgrow hown hbe hck r0 r1 r2 hw2;go_wp2;go_roundw
    case rel=>exact⟨k+1,by omega,by go_num,by rw[HBT.out,HBY.out];exact R1,R2⟩
    case measure=>simp[intOf];omega
  ·have e:zs.take k=zs:=List.take_of_length_le (by rw[<-HL.out];omega);have HT:Hid (zs.take k=zs):=e;clear e;go_wp2;go_ret;exact⟨_,rfl,by rw[<-HT.out];exact hown,hbe⟩
end Utf
end Go.Proofs.YtidhpmcmbooaoaaGreatDoor
