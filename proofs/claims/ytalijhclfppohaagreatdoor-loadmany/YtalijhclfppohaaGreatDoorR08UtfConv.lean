/- . -/
import Derived.Laws.BytesArg
import Derived.Test.YtalijhclfppohaaGreatDoorR05UtfLeaf
import Derived.Test.YtalijhclfppohaaGreatDoorR00UtfPlain
import Derived.Lib.FrozenHead2
import Derived.Lib.OthersKept
import Derived.Lib.UnsafeStr
import Derived.Lib.Builder
import Derived.Laws.Externs
import Derived.Deep.RegionWith
import Derived.BigRegion
import Derived.Test.YtalijhclfppohaaGreatDoorR01RowsPlain
import Derived.Laws.BitsAllLaws
set_option linter.unusedSimpArgs false
set_option linter.unusedVariables false
set_option maxRecDepth 100000
namespace Go.Proofs.YtalijhclfppohaaGreatDoor
namespace Utf
open Go.RowKit
theorem Tryz.info5:(Tryz.prog.info? 5).map (fun i=>(i.zero,i.size,i.bytes))=some (some (.int .u8 0),1,1):=by kernel_rfl
theorem news_cells (w:World) (l:List Int) (t:TypeId):∀ j u,(l.map (Value.int .u8))[j]?=some u->(w.alloc (.cells (l.map (Value.int .u8)).toArray t)).cell? ((⟨w.heap.size,0,none⟩:Addr).add j)=some u:=by
 intro j u hj;have e:(⟨w.heap.size,0,none⟩:Addr).add j=⟨w.heap.size,j,none⟩:=by unfold Addr.add;split<;>simp_all
 rw[e,cell_of_row _ w.heap.size j (l.map (Value.int .u8)).toArray t (0,0) (heap_alloc_new w _)];simpa using hj
theorem news_one (l:List Int):∀ u∈l.map (Value.int .u8),u.oneCell'=true:=by
 intro u hu;obtain⟨n,_,rfl⟩:=List.mem_map.1 hu;rfl
theorem step {w wr w1:World} {e:TypeId} {u v':Value} {bs news:List Int} {o:Obj} {m:Nat} (hown:wr.ownsRow w.heap.size e 1 u bs.length (bs.map (Value.int .u8))) (hbe:Below w.heap.size w wr)
  (hown':w1.ownsRow w.heap.size e 1 v' (bs.length+m) (bs.map (Value.int .u8)++news.map (Value.int .u8))) (hgrow:(wr.alloc o).grownBy w1 u.ownBlock) (hm:news.length=m) :
  w1.ownsRow w.heap.size e 1 v' (bs++news).length ((bs++news).map (Value.int .u8))/\Below w.heap.size w w1:=by
 subst hm;refine⟨by rw[List.length_append,List.map_append];exact hown',?_⟩;have hs:=hbe.size;exact(hbe.alloc hs o).grown hgrow (by simp;omega) (fun k hk=>(hown.lt k hk).1)
theorem conv_own {w:World} {base n:Nat} {v:Value} {xs:List Int} (h:w.ownsRow base 5 1 v n (xs.map (Value.int .u8))) :
  (convert 172 9 v).run Tryz.prog w=.ok (.string (strOfNums xs)) w:=by
 obtain⟨hl,h⟩:=h;rcases h with ⟨rfl,rfl⟩ | ⟨g,cap,cur,rfl,hb,hg,hn,hm,hs,ht⟩
 ·have e:xs=[]:=by simpa using hl
  subst e;exact run_convert_bytes_nil w 172 5 Tryz.underlying172 Tryz.underlying5 0 0 9 Tryz.underlying9
 ·have hx:xs.length=n:=by simpa using hl
  refine run_convert_bytes_arg w 172 5 Tryz.underlying172 Tryz.underlying5 g 0 n cap xs hx ?_ 9 Tryz.underlying9;intro i hi;rw[Nat.zero_add,cell_of_row w g i cur 5 (0,0) hg]
  have h1:(cur.toList.take (n*1))[i]?=some (.int .u8 (xs.getD i 0)):=by
   rw[ht,List.getElem?_map,List.getD_eq_getElem?_getD,List.getElem?_eq_getElem (by omega)];rfl
  rw[List.getElem?_take,if_pos (by omega)]at h1;simpa using h1
end Utf
namespace Utf
open Go.RowKit
def Ints (w:World) (a:Option Addr) (len:Nat) (zs:List Int):Prop :=
 len=zs.length/\(0<len->∃ b off,a=some ⟨b,off,none⟩/\b<w.heap.size/\∀ i,i<len->w.cell? ⟨b,off+i,none⟩=some (.int .i64 (zs.getD i 0)))
theorem add_plain (b off i:Nat):(⟨b,off,none⟩:Addr).add i=⟨b,off+i,none⟩:=by unfold Addr.add;split<;>simp_all
theorem areSigns_any (a:Option Addr) (len cap:Nat) (zs:List Int) (w:World) (hz:Ints w a len zs) (hl:len<=17592186044416) :
  Calls Tryz.prog 217 #[.slice a len cap] w fun e w'=>e=.returned (.bool (allS zs))/\w=w':=by
 have HZ:Hid (Ints w a len zs):=hz;have HL:Hid (len=zs.length):=hz.1;clear hz;go_enter Tryz.func217,Tryz.ntmps217;go_wp2
 go_loop [7] (fun i=>∃ k:Nat,k<=len/\i=.int .i64 k/\allS (zs.take k)=true) (fun i=>len-(intOf i).toNat)
 case atStart=>exact⟨0,Nat.zero_le _,rfl,rfl⟩
 case round =>
  obtain⟨k,hk,rfl,ha⟩:=hrel;have HA:Hid (allS (zs.take k)=true):=ha;clear ha;by_cases hlt:k<len
  ·obtain⟨b,off,rfl,hb,hc⟩:=HZ.out.2 (by omega);have hck:=hc k hlt;obtain⟨n,hn⟩:∃ n,n=zs.getD k 0:=⟨_,rfl⟩;rw[<-hn]at hck;have HN:Hid (n=zs.getD k 0):=hn;clear hn hc;cases hs:sgn n
   ·go_wp2_with (first | (go_at_call 87;refine(isSign_any _ _).mono ?_;rintro e w' ⟨rfl,rfl⟩));go_ret;exact⟨by rw[allS_false zs k (by rw[<-HL.out];exact hlt) (by rw[<-HN.out];exact hs)];rfl,rfl⟩
   ·go_wp2_with (first | (go_at_call 87;refine(isSign_any _ _).mono ?_;rintro e w' ⟨rfl,rfl⟩));go_round
    case rel=>exact⟨k+1,by omega,by go_num,by rw[allS_take zs k (by rw[<-HL.out];exact hlt),HA.out,<-HN.out,hs];rfl⟩
    case measure=>simp[intOf];omega
  ·go_wp2;go_ret;have e:zs.take k=zs:=List.take_of_length_le (by rw[<-HL.out];omega);exact⟨by rw[<-e,HA.out];rfl,rfl⟩
set_option maxHeartbeats 1000000 in
theorem appendSigns_any (a:Option Addr) (len cap:Nat) (zs:List Int) (w:World) (hz:Ints w a len zs) (hl:len<=17592186044416) (hs:allS zs=true) :
  Calls Tryz.prog 218 #[.slice none 0 0,.slice a len cap] w fun e w'=>∃ v,e=.returned v/\w'.ownsRow w.heap.size 5 1 v (bytes zs).length ((bytes zs).map (Value.int .u8))/\Below w.heap.size w w':=by
 have HZ:Hid (Ints w a len zs):=hz;have HL:Hid (len=zs.length):=hz.1;have HS:Hid (allS zs=true):=hs;clear hz hs;obtain⟨i0,hi,hz0,hz1,hz2⟩:=info_parts Tryz.info5;go_enter Tryz.func218,Tryz.ntmps218;go_wp2
 go_loopw [0,9] (fun v i wr=>∃ k:Nat,k<=len/\i=.int .i64 k/\wr.ownsRow w.heap.size 5 1 v (bytes (zs.take k)).length ((bytes (zs.take k)).map (Value.int .u8))/\Below w.heap.size w wr) (fun _ i _=>len-(intOf i).toNat)
 case atStart=>exact⟨0,Nat.zero_le _,rfl,World.ownsRow_nil _ _ _ _,Below.refl _ _⟩
 case round =>
  obtain⟨k,hk,rfl,hown,hbe⟩:=hrel;by_cases hlt:k<len
  ·obtain⟨b,off,rfl,hb,hc⟩:=HZ.out.2 (by omega);have hck:=(hbe.cell (p:=⟨b,off+k,none⟩) hb).trans (hc k hlt);have hkz:k<zs.length:=by rw[<-HL.out];exact hlt
   have hbl:=bytes_len (zs.take k);have hbl2:(bytes (zs.take k)).length<=4*k:=by have:=List.length_take_le k zs;omega
   have HBT:Hid (bytes (zs.take (k+1))=bytes (zs.take k)++byt (zs.getD k 0)):=bytes_take zs k hkz;obtain⟨n,hn⟩:∃ n,n=zs.getD k 0:=⟨_,rfl⟩
   have hsg:sgn n=true:=by
    cases hf:sgn n
    ·have:=allS_false zs k hkz (by rw[<-hn];exact hf);rw[HS.out]at this;cases this
    ·rfl
   have hn0:0<=n/\n<=1114111:=by
    unfold sgn inR at hsg;simp at hsg;omega
   obtain⟨hn0,hn1⟩:=hn0;rw[<-hn]at hck HBT;clear hn hc hsg hkz hbl HL HZ HS;generalize bytes (zs.take k)=bs at *;have r0:restV n 0=128+n % 64:=rfl;have r1:restV n 1=128+n / 64 % 64:=rfl;have r2:restV n 2=128+n / 4096 % 64:=rfl;by_cases c1:n<128
   ·have hw1:wid n=1:=by unfold wid;rw[if_pos c1]
    have HBY:Hid (byt n=[n]):=by unfold byt Hid;rw[if_pos c1]
    go_wp2_with (first | (go_at_call 88;refine(width_any _ _).mono ?_;rintro e w' ⟨rfl,rfl⟩) | (at_builtin;refine wpList_append_own _ rfl _ _ 172 rfl w.heap.size 5 i0 (.int .u8 0) 1 1 Tryz.underlying172 hi hz0 hz1 hz2 rfl (by decide) _ _ _ rfl (hown.alloc _) ⟨wr.heap.size,0,none⟩ 1 1 ([n].map (Value.int .u8)) rfl rfl (news_cells _ _ _) (news_one _) ?_ ?_ ?_ ?_))
    ·unfold maxLen;omega
    ·omega
    ·have:=hbe.size;simp;omega
    intro v' w1 hown' hgrow _;obtain⟨R1,R2⟩:=step (news:=[n]) hown hbe hown' hgrow rfl;clear hown' hgrow hown hbe hck hw1;go_wp2;go_roundw
    case rel=>exact⟨k+1,by omega,by go_num,by rw[HBT.out,HBY.out];exact R1,R2⟩
    case measure=>simp[intOf];omega
   by_cases c2:n<2048
   ·have hw2:wid n=2:=by unfold wid;rw[if_neg c1,if_pos c2]
    have HBY:Hid (byt n=[192+n / 64,128+n % 64]):=by unfold byt Hid;rw[if_neg c1,if_pos c2]
    go_wp2_with (first | (go_at_call 88;refine(width_any _ _).mono ?_;rintro e w' ⟨rfl,rfl⟩) | (go_at_call 224;refine(rest_any n _ hn0 hn1 (by decide) (by decide) _).mono ?_;rintro e w' ⟨rfl,rfl⟩) | (at_builtin;refine wpList_append_own _ rfl _ _ 172 rfl w.heap.size 5 i0 (.int .u8 0) 1 1 Tryz.underlying172 hi hz0 hz1 hz2 rfl (by decide) _ _ _ rfl (hown.alloc _) ⟨wr.heap.size,0,none⟩ 2 2 ([192+n / 64,128+n % 64].map (Value.int .u8)) rfl rfl (news_cells _ _ _) (news_one _) ?_ ?_ ?_ ?_))
    ·unfold maxLen;omega
    ·omega
    ·have:=hbe.size;simp;omega
    intro v' w1 hown' hgrow _;obtain⟨R1,R2⟩:=step (news:=[192+n / 64,128+n % 64]) hown hbe hown' hgrow rfl;clear hown' hgrow hown hbe hck r0 r1 r2 hw2;go_wp2;go_roundw
    case rel=>exact⟨k+1,by omega,by go_num,by rw[HBT.out,HBY.out];exact R1,R2⟩
    case measure=>simp[intOf];omega
   by_cases c3:n<65536
   ·have hw2:wid n=3:=by unfold wid;rw[if_neg c1,if_neg c2,if_pos c3]
    have HBY:Hid (byt n=[224+n / 4096,128+n / 64 % 64,128+n % 64]):=by unfold byt Hid;rw[if_neg c1,if_neg c2,if_pos c3]
    go_wp2_with (first | (go_at_call 88;refine(width_any _ _).mono ?_;rintro e w' ⟨rfl,rfl⟩) | (go_at_call 224;refine(rest_any n _ hn0 hn1 (by decide) (by decide) _).mono ?_;rintro e w' ⟨rfl,rfl⟩) | (at_builtin;refine wpList_append_own _ rfl _ _ 172 rfl w.heap.size 5 i0 (.int .u8 0) 1 1 Tryz.underlying172 hi hz0 hz1 hz2 rfl (by decide) _ _ _ rfl (hown.alloc _) ⟨wr.heap.size,0,none⟩ 3 3 ([224+n / 4096,128+n / 64 % 64,128+n % 64].map (Value.int .u8)) rfl rfl (news_cells _ _ _) (news_one _) ?_ ?_ ?_ ?_))
    ·unfold maxLen;omega
    ·omega
    ·have:=hbe.size;simp;omega
    intro v' w1 hown' hgrow _;obtain⟨R1,R2⟩:=step (news:=[224+n / 4096,128+n / 64 % 64,128+n % 64]) hown hbe hown' hgrow rfl;clear hown' hgrow hown hbe hck r0 r1 r2 hw2;go_wp2;go_roundw
    case rel=>exact⟨k+1,by omega,by go_num,by rw[HBT.out,HBY.out];exact R1,R2⟩
    case measure=>simp[intOf];omega
   ·have hw2:wid n=4:=by unfold wid;rw[if_neg c1,if_neg c2,if_neg c3]
    have HBY:Hid (byt n=[240+n / 262144,128+n / 4096 % 64,128+n / 64 % 64,128+n % 64]):=by unfold byt Hid;rw[if_neg c1,if_neg c2,if_neg c3]
    go_wp2_with (first | (go_at_call 88;refine(width_any _ _).mono ?_;rintro e w' ⟨rfl,rfl⟩) | (go_at_call 224;refine(rest_any n _ hn0 hn1 (by decide) (by decide) _).mono ?_;rintro e w' ⟨rfl,rfl⟩) | (at_builtin;refine wpList_append_own _ rfl _ _ 172 rfl w.heap.size 5 i0 (.int .u8 0) 1 1 Tryz.underlying172 hi hz0 hz1 hz2 rfl (by decide) _ _ _ rfl (hown.alloc _) ⟨wr.heap.size,0,none⟩ 4 4 ([240+n / 262144,128+n / 4096 % 64,128+n / 64 % 64,128+n % 64].map (Value.int .u8)) rfl rfl (news_cells _ _ _) (news_one _) ?_ ?_ ?_ ?_))
    ·unfold maxLen;omega
    ·omega
    ·have:=hbe.size;simp;omega
    intro v' w1 hown' hgrow _;obtain⟨R1,R2⟩:=step (news:=[240+n / 262144,128+n / 4096 % 64,128+n / 64 % 64,128+n % 64]) hown hbe hown' hgrow rfl;clear hown' hgrow hown hbe hck r0 r1 r2 hw2;go_wp2;go_roundw
    case rel=>exact⟨k+1,by omega,by go_num,by rw[HBT.out,HBY.out];exact R1,R2⟩
    case measure=>simp[intOf];omega
  ·have e:zs.take k=zs:=List.take_of_length_le (by rw[<-HL.out];omega);have HT:Hid (zs.take k=zs):=e;clear e;go_wp2;go_ret;exact⟨_,rfl,by rw[<-HT.out];exact hown,hbe⟩
end Utf
namespace Utf
open Go.RowKit
theorem encode_no (a:Option Addr) (len cap:Nat) (zs:List Int) (w:World) (hz:Ints w a len zs) (hl:len<=17592186044416) (hs:allS zs=false) :
  Calls Tryz.prog 209 #[.slice a len cap] w fun e w'=>e=.returned (.tuple #[.string ⟨#[]⟩,.int .i64 8])/\w=w':=by
 have HZ:Hid (Ints w a len zs):=hz;clear hz;go_enter Tryz.func209,Tryz.ntmps209;go_wp2_with (first | (go_at_call 217;refine(areSigns_any _ _ _ zs _ HZ.out hl).mono ?_;rintro e w' ⟨rfl,rfl⟩));go_ret2;exact⟨rfl,rfl⟩
theorem encode_yes (a:Option Addr) (len cap:Nat) (zs:List Int) (w:World) (hz:Ints w a len zs) (hl:len<=17592186044416) (hs:allS zs=true) :
  Calls Tryz.prog 209 #[.slice a len cap] w fun e w'=>e=.returned (.tuple #[.string (strOfNums (bytes zs)),.int .i64 0])/\Below w.heap.size w w':=by
 have HZ:Hid (Ints w a len zs):=hz;clear hz;go_enter Tryz.func209,Tryz.ntmps209;go_wp2_with (first | (go_at_call 217;refine(areSigns_any _ _ _ zs _ HZ.out hl).mono ?_;rintro e w' ⟨rfl,rfl⟩) | (go_at_call 218;refine(appendSigns_any _ _ _ zs _ HZ.out hl hs).mono ?_;rintro e w' ⟨v,rfl,hown,hbe⟩;have hcv:=conv_own hown;clear hown));go_ret2;exact⟨rfl,hbe⟩
def encS (zs:List Int):ByteArray:=if allS zs=true then strOfNums (bytes zs)else ⟨#[]⟩
def encE (zs:List Int):Int:=if allS zs=true then 0 else 8
theorem encode_any (a:Option Addr) (len cap:Nat) (zs:List Int) (w:World) (hz:Ints w a len zs) (hl:len<=17592186044416) :
  Calls Tryz.prog 209 #[.slice a len cap] w fun e w'=>e=.returned (.tuple #[.string (encS zs),.int .i64 (encE zs)])/\Below w.heap.size w w':=by
 unfold encS encE;cases hs:allS zs
 ·refine(encode_no a len cap zs w hz hl hs).mono ?_;rintro e w' ⟨rfl,rfl⟩;exact⟨by simp,Below.refl _ _⟩
 ·refine(encode_yes a len cap zs w hz hl hs).mono ?_;rintro e w' ⟨rfl,hb⟩;exact⟨by simp,hb⟩
theorem ints_one (w:World) (n:Int) (t:TypeId):Ints (w.alloc (.cells #[.int .i64 n] t)) (some ⟨w.heap.size,0,none⟩) 1 [n]:=by
 refine⟨rfl,fun _=>⟨_,_,rfl,by simp,?_⟩⟩;intro i hi;obtain rfl:i=0:=by omega
 rw[cell_of_row _ w.heap.size (0+0) #[.int .i64 n] t (0,0) (heap_alloc_new w _)];rfl
end Utf
namespace Utf
open Go.RowKit
theorem Tryz.info3:(Tryz.prog.info? 3).map (fun i=>(i.zero,i.size,i.bytes))=some (some (.int .i64 0),1,8):=by kernel_rfl
theorem new_cells (w:World) (n:Int) (t:TypeId):∀ j u,([Value.int .i64 n])[j]?=some u->(w.alloc (.cells #[Value.int .i64 n] t)).cell? ((⟨w.heap.size,0,none⟩:Addr).add j)=some u:=by
 intro j u hj;have e:(⟨w.heap.size,0,none⟩:Addr).add j=⟨w.heap.size,j,none⟩:=by unfold Addr.add;split<;>simp_all
 rw[e,cell_of_row _ w.heap.size j #[Value.int .i64 n] t (0,0) (heap_alloc_new w _)];simpa using hj
theorem new_one (n:Int):∀ u∈[Value.int .i64 n],u.oneCell'=true:=by
 intro u hu;simp at hu;subst hu;rfl
theorem step1 {B:Nat} {w wr w1:World} {e:TypeId} {u v':Value} {xs:List Int} {n:Int} {o:Obj} (hown:wr.ownsRow B e 1 u xs.length (xs.map (Value.int .i64))) (hbe:Below B w wr) (hB:B<=wr.heap.size)
  (hown':w1.ownsRow B e 1 v' (xs.length+1) (xs.map (Value.int .i64)++[Value.int .i64 n])) (hgrow:(wr.alloc o).grownBy w1 u.ownBlock) :
  w1.ownsRow B e 1 v' (xs++[n]).length ((xs++[n]).map (Value.int .i64))/\Below B w w1/\B<=w1.heap.size:=by
 refine⟨by rw[List.length_append,List.map_append];exact hown',?_,?_⟩
 ·exact(hbe.alloc hB o).grown hgrow (by simp;omega) (fun k hk=>(hown.lt k hk).1)
 ·have:=hgrow.size;simp at this;omega
theorem dec_split {l:List UInt8} {p:Nat} {xs:List Int} (h:dec l=(xs++(dec (l.drop p)).1,(dec (l.drop p)).2.map (· + p))) (hne:l.drop p≠[]) (hn: ¬ (fst (l.drop p)).1<0) :
  dec l=((xs++[(fst (l.drop p)).1])++(dec (l.drop (p+fk (l.drop p)))).1,(dec (l.drop (p+fk (l.drop p)))).2.map (· + (p+fk (l.drop p)))):=by
 have hx:=dec_next _ hne hn;rw[List.drop_drop]at hx;rw[h,hx];simp[Option.map_map]
 cases (dec (l.drop (p+fk (l.drop p)))).2 with
 | none=>rfl
 | some q=>simp;omega
def decXs (l:List UInt8):List Int:=if (dec l).2=none then (dec l).1 else []
def DecRes (l:List UInt8) (w:World) (e:Ending) (w':World):Prop :=
 ∃ v,e=.returned (.tuple #[v,.agg #[.int .i64 (why (dec l).2),.int .i64 (pos (dec l).2)]])/\w'.ownsRow w.heap.size 3 1 v (decXs l).length ((decXs l).map (Value.int .i64))/\Below w.heap.size w w'
theorem ownsRow_lower {w:World} {B B':Nat} {e:TypeId} {k n:Nat} {v:Value} {xs:List Value} (h:w.ownsRow B e k v n xs) (hb:B'<=B):w.ownsRow B' e k v n xs:=by
 obtain⟨h1,h2⟩:=h;refine⟨h1,?_⟩;rcases h2 with h2 | ⟨g,cap,cur,hv,hg,rest⟩
 ·exact .inl h2
 ·exact .inr ⟨g,cap,cur,hv,Nat.le_trans hb hg,rest⟩
set_option maxHeartbeats 1000000 in
theorem decode_any (s:ByteArray) (w:World) (hs:s.size<=140737488355328) (hx:(dec s.data.toList).1.length<=17592186044416):Calls Tryz.prog 121 #[.string s] w fun e w'=>DecRes s.data.toList w e w':=by
 have hs':s.size<=maxLen:=by unfold maxLen;omega
 have HX:Hid ((dec s.data.toList).1.length<=17592186044416):=hx;clear hx;obtain⟨i0,hi,hz0,hz1,hz2⟩:=info_parts Tryz.info3;go_enter Tryz.func121,Tryz.ntmps121;go_wp2
 go_loopw [4,5] (fun v i wr=>∃ (p:Nat) (xs:List Int),p<=s.size/\xs.length<=p/\i=.int .i64 p/\wr.ownsRow (w.heap.size+1) 3 1 v xs.length (xs.map (Value.int .i64))/\dec s.data.toList=(xs++(dec (s.data.toList.drop p)).1,(dec (s.data.toList.drop p)).2.map (· + p)) /\
   Below (w.heap.size+1) (w.alloc (.cells #[.int .i64 0,.int .i64 0] 32)) wr/\w.heap.size+1<=wr.heap.size) (fun _ i _=>s.size-(intOf i).toNat)
 case atStart=>exact⟨0,[],Nat.zero_le _,Nat.le_refl _,rfl,World.ownsRow_nil _ _ _ _,by simp,Below.refl _ _,by simp⟩
 case round =>
  obtain⟨p,xs,hp,hxl,rfl,hown,hd,hbe,hsz⟩:=hrel;have HD:Hid (dec s.data.toList=(xs++(dec (s.data.toList.drop p)).1,(dec (s.data.toList.drop p)).2.map (· + p))):=hd;clear hd;have hc0:wr.cell? ⟨w.heap.size,0,none⟩=some (.int .i64 0):=(hbe.cell (p:=⟨w.heap.size,0,none⟩) (by simp)).trans (by rw[cell_of_row _ w.heap.size 0 _ _ (0,0) (heap_alloc_new w _)];rfl);have hc1:wr.cell? ⟨w.heap.size,1,none⟩=some (.int .i64 0):=(hbe.cell (p:=⟨w.heap.size,1,none⟩) (by simp)).trans (by rw[cell_of_row _ w.heap.size 1 _ _ (0,0) (heap_alloc_new w _)];rfl);have hf0:wr.frozen? ⟨w.heap.size,0,none⟩=false:=(hbe.frozen (p:=⟨w.heap.size,0,none⟩) (by simp)).trans (by simp);have hf1:wr.frozen? ⟨w.heap.size,1,none⟩=false:=(hbe.frozen (p:=⟨w.heap.size,1,none⟩) (by simp)).trans (by simp);by_cases hlt:p<s.size
  ·have hne:=drop_ne s p hlt;have hf:=fk_pos _ hne;rw[List.length_drop,len_data]at hf;obtain⟨f1,f2,f3,f4⟩:=hf;have hb0:0<=(fst (s.data.toList.drop p)).2:=by omega
   have hb4:(fst (s.data.toList.drop p)).2<=4:=by omega
   have hb5:(p:Int)+(fst (s.data.toList.drop p)).2<=s.size:=by omega
   have H4:Hid (((fk (s.data.toList.drop p):Nat):Int)=(fst (s.data.toList.drop p)).2):=f4;clear f4;by_cases hn:(fst (s.data.toList.drop p)).1<0
   ·have HB:Hid ((dec s.data.toList).2=some p):=by
     have h1:=HD.out;rw[dec_bad _ hne hn]at h1;rw[h1];simp[Hid]
    clear hne;go_wp2_with (first | (go_at_call 59;refine(firstAt_any _ _ _ hs').mono ?_;rintro e w' ⟨rfl,rfl⟩));refine bodyPost_ret (v:=.tuple #[.slice none 0 0,.agg #[.int .i64 8,.int .i64 p]]) (by simp[results,Tryz.results121,go_sem,hc0,hc1]) rfl ?_;refine⟨.slice none 0 0,by rw[HB.out];rfl,?_,?_⟩
    ·have e:decXs s.data.toList=[]:=by unfold decXs;rw[HB.out];rfl
     rw[e];exact World.ownsRow_nil _ _ _ _
    exact((((Below.refl _ _).alloc (Nat.le_refl _) _).trans (hbe.mono (Nat.le_succ _))).setCell (Nat.le_refl _) _).setCell (Nat.le_refl _) _
   ·have HN:=dec_split HD.out hne hn;have HN:Hid (dec s.data.toList=((xs++[(fst (s.data.toList.drop p)).1])++(dec (s.data.toList.drop (p+fk (s.data.toList.drop p)))).1,(dec (s.data.toList.drop (p+fk (s.data.toList.drop p)))).2.map (· + (p+fk (s.data.toList.drop p))))):=HN
    have hxx:xs.length+1<=17592186044416:=by
     have h1:=HX.out;rw[HN.out]at h1;simp only[List.length_append,List.length_cons,List.length_nil]at h1;omega
    clear HD hne;go_wp2_with (first | (go_at_call 59;refine(firstAt_any _ _ _ hs').mono ?_;rintro e w' ⟨rfl,rfl⟩) | (at_builtin;refine wpList_append_own _ rfl _ _ 144 rfl (w.heap.size+1) 3 i0 (.int .i64 0) 1 8 Tryz.underlying144 hi hz0 hz1 hz2 rfl (by decide) _ _ _ rfl (hown.alloc _) ⟨wr.heap.size,0,none⟩ 1 1 [Value.int .i64 (fst (s.data.toList.drop p)).1] rfl rfl (new_cells _ _ _) (new_one _) ?_ ?_ ?_ ?_))
    ·unfold maxLen;omega
    ·omega
    ·simp;omega
    intro v' w1 hown' hgrow _;have R:=step1 hown hbe hsz hown' hgrow;obtain⟨R1,R2,R3⟩:=R;clear hown' hgrow hown hbe hc0 hc1 hf0 hf1;go_wp2;have h4:=H4.out;go_roundw
    case rel=>exact⟨p+fk (s.data.toList.drop p),xs++[(fst (s.data.toList.drop p)).1],by omega,by simp;omega,by rw[<-H4.out];go_num,R1,HN.out,R2,R3⟩
    case measure=>simp[intOf];omega
  ·have HB:Hid (dec s.data.toList=(xs,none)):=by
    have h1:=HD.out;rw[List.drop_of_length_le (by rw[len_data];omega),dec_nil]at h1;simp at h1;exact h1
   clear HD;go_wp2;refine bodyPost_ret (v:=.tuple #[u4,.agg #[.int .i64 0,.int .i64 0]]) (by simp[results,Tryz.results121,go_sem,hc0,hc1]) rfl ?_;refine⟨u4,by rw[HB.out];rfl,?_,?_⟩
   ·have e:decXs s.data.toList=xs:=by unfold decXs;rw[HB.out];rfl
    rw[e];exact ownsRow_lower (ownsRow_setCell_below (ownsRow_setCell_below hown (Nat.lt_succ_self _) _) (Nat.lt_succ_self _) _) (Nat.le_succ _)
   ·exact((((Below.refl _ _).alloc (Nat.le_refl _) _).trans (hbe.mono (Nat.le_succ _))).setCell (Nat.le_refl _) _).setCell (Nat.le_refl _) _
theorem Ints.later {w w':World} {a:Option Addr} {len:Nat} {zs:List Int} (h:Ints w a len zs) {B:Nat} (hb:Below B w w') (hB:w.heap.size<=B):Ints w' a len zs:=by
 refine⟨h.1,fun hp=> ?_⟩;obtain⟨b,off,ha,hlt,hc⟩:=h.2 hp;exact⟨b,off,ha,Nat.lt_of_lt_of_le hlt hb.size,fun i hi=>(hb.cell (p:=⟨b,off+i,none⟩) (Nat.lt_of_lt_of_le hlt hB)).trans (hc i hi)⟩
theorem own_later {w w':World} {B:Nat} {e:TypeId} {k n:Nat} {v:Value} {xs:List Value} (h:w.ownsRow B e k v n xs) (hb:Below w.heap.size w w'):w'.ownsRow B e k v n xs:=by
 obtain⟨h1,h2⟩:=h;refine⟨h1,?_⟩;rcases h2 with h2 | ⟨g,cap,cur,hv,hg,hh,rest⟩
 ·exact .inl h2
 ·refine .inr ⟨g,cap,cur,hv,hg,?_,rest⟩;rw[hb.block g (Array.getElem?_eq_some_iff.1 hh).1];exact hh
end Utf
namespace Quo
open Utf Rws
open Go.RowKit
structure Emb (T:TypeId) (n:Nat):Prop where
 ne:T≠5
 lies:liesAt Tryz.prog Tryz.prog.depth T (n / Tryz.prog.cellsOf T) 0 174 1=true
theorem embR:Emb 178 4:=⟨by decide,by kernel_rfl⟩
theorem sizeB:(Tryz.prog.info? 174).map (·.size)=some 2:=by kernel_rfl
def BAt (T:TypeId) (B b:Nat) (p:Value) (tl bs:List Value) (w:World):Prop :=
 B<=b/\∃ v,w.heap[b]?=some (.cells (p::v::tl).toArray T (0,0))/\w.ownsRowF B 5 1 v bs.length bs/\v.ownBlock≠some b/\(bs=[]->v=.slice none 0 0)
def Bld (T:TypeId) (B b:Nat) (tl bs:List Value) (w:World):Prop :=
 BAt T B b (.pointer none) tl bs w\/BAt T B b (.pointer (some ⟨b,0,none⟩)) tl bs w
variable {T:TypeId} {B b:Nat} {p:Value} {tl bs:List Value} {w:World}
theorem BAt.lt (h:BAt T B b p tl bs w):b<w.heap.size:=by
 obtain⟨_,v,hb,_⟩:=h;exact(Array.getElem?_eq_some_iff.1 hb).1
theorem BAt.cell0 (h:BAt T B b p tl bs w):w.cell? ⟨b,0,none⟩=some p:=by
 obtain⟨_,v,hb,_⟩:=h;rw[Lib.cell_of_heap hb];rfl
theorem BAt.shape (h:BAt T B b p tl bs w):w.shape? b=some (T,tl.length+2):=by
 obtain⟨_,v,hb,_⟩:=h;simp[World.shape?,hb]
theorem BAt.frozen (h:BAt T B b p tl bs w) (i:Nat):w.frozen? ⟨b,i,none⟩=false:=by
 obtain⟨_,v,hb,_⟩:=h;exact Lib.frozen_of_heap hb i
theorem BAt.used (h:BAt T B b p tl bs w) (q:Value):BAt T B b q tl bs (w.setCell ⟨b,0,none⟩ q):=by
 obtain⟨hB,v,hb,hown,hne,h0⟩:=h;refine⟨hB,v,?_,?_,hne,h0⟩
 ·simp[World.setCell,Array.getElem?_modify,hb]
 ·exact hown.kept (row:=some b) ⟨rfl,rfl,rfl,by simp[World.setCell],fun k _ hk=>Below.heap_setCell _ _ _ _ (fun e=>hk (by simp[e]))⟩ (Or.inr hne)
theorem BAt.put {v v':Value} {bs':List Value} (hT:T≠5) (hB:B<=b) (hb:w.heap[b]?=some (.cells (p::v::tl).toArray T (0,0))) (hown:w.ownsRowF B 5 1 v' bs'.length bs') (h0:bs'=[]->v'=.slice none 0 0) :
  BAt T B b p tl bs' (w.setCell ⟨b,1,none⟩ v'):=by
 have hne:=Lib.ownBlock_neF hown hb hT;refine⟨hB,v',?_,?_,hne,h0⟩
 ·simp[World.setCell,Array.getElem?_modify,hb]
 ·exact hown.kept (row:=some b) ⟨rfl,rfl,rfl,by simp[World.setCell],fun k _ hk=>Below.heap_setCell _ _ _ _ (fun e=>hk (by simp[e]))⟩ (Or.inr hne)
theorem BAt.tail (h:BAt T B b p tl bs w) (i:Nat) (x:Value):BAt T B b p (tl.set i x) bs (w.setCell ⟨b,i+2,none⟩ x):=by
 obtain⟨hB,v,hb,hown,hne,h0⟩:=h;refine⟨hB,v,?_,?_,hne,h0⟩
 ·simp[World.setCell,Array.getElem?_modify,hb]
 ·exact hown.kept (row:=some b) ⟨rfl,rfl,rfl,by simp[World.setCell],fun k _ hk=>Below.heap_setCell _ _ _ _ (fun e=>hk (by simp[e]))⟩ (Or.inr hne)
theorem BAt.later {w':World} (h:BAt T B b p tl bs w) (hb':Below w.heap.size w w'):BAt T B b p tl bs w':=by
 have hlt:=h.lt;obtain⟨hB,v,hb,hown,hne,h0⟩:=h;refine⟨hB,v,(hb'.block b hlt).trans hb,hown.kept (row:=none) ⟨hb'.os,hb'.tape,hb'.output,hb'.size,fun k hk _=>hb'.block k hk⟩ ?_,hne,h0⟩;cases hv:v.ownBlock
 ·exact .inl rfl
 ·exact .inr (by simp)
theorem Bld.later {w':World} (h:Bld T B b tl bs w) (hb':Below w.heap.size w w'):Bld T B b tl bs w':=h.elim (fun x=>.inl (x.later hb')) (fun x=>.inr (x.later hb'))
theorem Bld.tail (h:Bld T B b tl bs w) (i:Nat) (x:Value):Bld T B b (tl.set i x) bs (w.setCell ⟨b,i+2,none⟩ x):=h.elim (fun y=>.inl (y.tail i x)) (fun y=>.inr (y.tail i x))
theorem Bld.lt (h:Bld T B b tl bs w):b<w.heap.size:=h.elim BAt.lt BAt.lt
theorem Bld.frozen (h:Bld T B b tl bs w) (i:Nat):w.frozen? ⟨b,i,none⟩=false:=h.elim (fun x=>x.frozen i) (fun x=>x.frozen i)
theorem Bld.cell (h:Bld T B b tl bs w) (i:Nat):w.cell? ⟨b,i+2,none⟩=tl[i]?:=by
 rcases h with ⟨_,v,hb,_⟩ | ⟨_,v,hb,_⟩<;>(rw[Lib.cell_of_heap hb];simp)
theorem kept_of_below {e:TypeId} {o:Option Nat} {w w':World} (h:Below w.heap.size w w'):Lib.OthersKept e o w w':=fun k o hk _ _=>(h.block k (Array.getElem?_eq_some_iff.1 hk).1).trans hk
theorem bld_new (w:World) (T:TypeId) (tl:List Value):Bld T w.heap.size w.heap.size tl [] (w.alloc (.cells (.pointer none::.slice none 0 0::tl).toArray T)) :=
 .inl ⟨Nat.le_refl _,.slice none 0 0,heap_alloc_new w _,World.ownsRowF_nil _ _ _ _,by simp[Value.ownBlock],fun _=>rfl⟩
/-! ### copyCheck -/
theorem copyCheck_used (b:Nat) (w:World) (h0:w.cell? ⟨b,0,none⟩=some (.pointer (some ⟨b,0,none⟩))) :
  Calls Tryz.prog 162 #[.pointer (some ⟨b,0,none⟩)] w fun e w'=>e=.returned (.tuple #[])/\w=w':=by
 obtain⟨j,hj,_⟩:=Option.map_eq_some_iff.1 sizeB;go_enter Tryz.func162,Tryz.ntmps162;go_wp2;rw[Lib.run_neq_ptr_same w _ Tryz.underlying171 hj];go_wp2;go_end0;exact⟨rfl,rfl⟩
theorem copyCheck_fresh {n:Nat} (hT:Emb T n) (b:Nat) (w:World) (h0:w.cell? ⟨b,0,none⟩=some (.pointer none)) (hsh:w.shape? b=some (T,n)) (hn:0<n) (hfz:w.frozen? ⟨b,0,none⟩=false) :
  Calls Tryz.prog 162 #[.pointer (some ⟨b,0,none⟩)] w fun e w'=>e=.returned (.tuple #[])/\w'=w.setCell ⟨b,0,none⟩ (.pointer (some ⟨b,0,none⟩)):=by
 obtain⟨j,hj,hjs⟩:=Option.map_eq_some_iff.1 sizeB;go_enter Tryz.func162,Tryz.ntmps162;go_wp2;rw[Lib.run_to_unsafe w ⟨b,0,none⟩ Tryz.underlying171 Tryz.underlying220 hj (by rw[hjs];decide) hsh hn];simp only[Result.andThen];rw[Oper.upon_value];go_wp2;rw[run_callFunc_extern Tryz.func185 (by kernel_rfl) (by kernel_rfl) (by kernel_rfl) (e:=Extern.AbiNoEscape.same) (by kernel_rfl)];rw[Lib.run_noEscape];simp only[Result.andThen];rw[Oper.upon_value];go_wp2;rw[Lib.run_from_unsafe w ⟨b,0,none⟩ Tryz.underlying220 Tryz.underlying171 hj hsh hT.lies];simp only[Result.andThen];rw[Oper.upon_value];go_wp2;go_end0;exact⟨rfl,rfl⟩
theorem copyCheck_any (hT:Emb T (tl.length+2)) (h:Bld T B b tl bs w) :
  Calls Tryz.prog 162 #[.pointer (some ⟨b,0,none⟩)] w fun e w'=>e=.returned (.tuple #[])/\(BAt T B b (.pointer (some ⟨b,0,none⟩)) tl bs w'/\Below B w w'/\Lib.OthersKept 5 (some b) w w'):=by
 rcases h with h | h
 ·refine(copyCheck_fresh hT b w h.cell0 h.shape (by omega) (h.frozen 0)).mono ?_;rintro e w' ⟨rfl,rfl⟩;exact⟨rfl,h.used _,(Below.refl B w).setCell (p:=⟨b,0,none⟩) h.1 _,(Lib.OthersKept.refl _ _ w).setCell ⟨b,0,none⟩ rfl _⟩
 ·refine(copyCheck_used b w h.cell0).mono ?_;rintro e w' ⟨rfl,rfl⟩;exact⟨rfl,h,Below.refl B _,Lib.OthersKept.refl _ _ _⟩
/-! ### WriteString, WriteByte -/
set_option maxHeartbeats 2000000 in
theorem writeString_any (hT:Emb T (tl.length+2)) (s:ByteArray) (h:Bld T B b tl bs w) (hlen:bs.length+s.size<=140737488355328) (hBw:B<=w.heap.size) :
  Calls Tryz.prog 145 #[.pointer (some ⟨b,0,none⟩),.string s] w fun e w'=>e=.returned (.tuple #[.int .i64 s.size,.nilIface])/\(Bld T B b tl (bs++Lib.strCells s) w'/\Below B w w'/\Lib.OthersKept 5 (some b) w w'):=by
 obtain⟨i0,hi,hz0,hz1,hz2⟩:=info_parts Tryz.info5;have HT:Hid (T≠5):=hT.ne;have HC:Hid (Calls Tryz.prog 162 #[.pointer (some ⟨b,0,none⟩)] w fun e w'=>e=.returned (.tuple #[])/\(BAt T B b (.pointer (some ⟨b,0,none⟩)) tl bs w'/\Below B w w'/\Lib.OthersKept 5 (some b) w w')):=copyCheck_any hT h;clear h hT;go_enter Tryz.func145,Tryz.ntmps145;go_wp2_with (go_at_call 162;refine HC.out.mono ?_);rintro e w1 ⟨rfl,h1,hb1,hk1⟩;obtain⟨hB,v,hbk,hown,hne,hv0⟩:=h1;have c0:w1.cell? ⟨b,0,none⟩=some (.pointer (some ⟨b,0,none⟩)):=by rw[Lib.cell_of_heap hbk];rfl
 have c1:w1.cell? ⟨b,1,none⟩=some v:=by rw[Lib.cell_of_heap hbk];rfl
 go_wp2_with (at_builtin;refine Lib.wpList_append_own_stringF _ rfl _ _ 172 9 rfl B 5 i0 Tryz.underlying172 Tryz.underlying9 hi hz0 hz1 hz2 _ _ _ rfl hown s rfl ?c3 ?c4 ?c5 ?_)
 case c3=>unfold maxLen;omega
 case c4=>omega
 case c5=>have:=hb1.size;omega
 intro v' w2 hown' hgrow hnil;have hlt:b<w1.heap.size:=(Array.getElem?_eq_some_iff.1 hbk).1
 have hb2:w2.heap[b]?=some (.cells (.pointer (some ⟨b,0,none⟩)::v::tl).toArray T (0,0)):=by
  rw[hgrow.block b hlt (fun e=>hne e.symm)];exact hbk
 have d1:w2.cell? ⟨b,1,none⟩=some v:=by rw[Lib.cell_of_heap hb2];rfl
 have f1:w2.frozen? ⟨b,1,none⟩=false:=Lib.frozen_of_heap hb2 1
 have HX:Hid (Bld T B b tl (bs++Lib.strCells s) (w2.setCell ⟨b,1,none⟩ v')):=.inr (BAt.put HT.out hB hb2 (by simpa [Lib.strCells_length]using hown') (by
  intro h;rw[List.append_eq_nil_iff]at h;have hs0:s.size=0:=by have:=Lib.strCells_length s;rw[h.2]at this;simpa using this.symm
  exact hnil.2 ⟨hv0 h.1,by simpa using hs0⟩))
 have HB:Hid (Below B w (w2.setCell ⟨b,1,none⟩ v')):=(hb1.grown hgrow (by have:=hb1.size;omega) (fun k hk=>(hown.lt k hk).1)).setCell (p:=⟨b,1,none⟩) hB _;have HK:Hid (Lib.OthersKept 5 (some b) w (w2.setCell ⟨b,1,none⟩ v')):=(hk1.grown hgrow (Lib.ownsRowF_kind hown)).setCell ⟨b,1,none⟩ rfl _
 obtain⟨ao,n',cap,rfl⟩:∃ ao n' cap,v'=.slice ao n' cap:=by
  rcases hown'.2 with ⟨hv,_⟩ | ⟨g,cap,cur,fz,hv,_⟩
  ·exact⟨_,_,_,hv⟩
  ·exact⟨_,_,_,hv⟩
 clear hown hown' hgrow hk1 hb1 hv0 hnil hbk hb2 c0 c1;go_wp2;go_ret2;exact⟨rfl,HX.out,HB.out,HK.out⟩
/-! ### String -/
theorem cells_len (l:List UInt8):(Lib.byteCells l).length=l.length:=Lib.byteCells_length l
set_option maxHeartbeats 2000000 in
theorem string_empty (h:Bld T B b tl [] w) :
  Calls Tryz.prog 139 #[.pointer (some ⟨b,0,none⟩)] w fun e w'=>e=.returned (.string ⟨#[]⟩)/\(Bld T B b tl [] w'/\Below w.heap.size w w'):=by
 have hd:Bld T B b tl [] w.drew:=h.later (Below.drew (Below.refl _ w))
 have c1:w.drew.cell? ⟨b,1,none⟩=some (.slice none 0 0):=by
  rcases h with ⟨_,v,hb,_,_,h0⟩ | ⟨_,v,hb,_,_,h0⟩<;>(rw[h0 rfl]at hb;have hb':w.drew.heap[b]?=_:=hb;rw[Lib.cell_of_heap hb'];rfl)
 have hSD:(Builtin.unsafeSliceData_ #[172] 202 #[.slice none 0 0]).run Tryz.prog w.drew=.ok (.pointer none) w.drew:=rfl;have hUS:(Builtin.unsafeString_ #[202,3] 9 #[.pointer none,.int .i64 0]).run Tryz.prog w.drew=.ok (.string ⟨#[]⟩) w.drew:=rfl;have HD:Hid (Bld T B b tl [] w.drew):=hd;clear h hd;go_enter Tryz.func139,Tryz.ntmps139;go_wp2;go_region
 all_goals (go_wp2;go_ret;exact⟨rfl,HD.out,Below.drew (Below.refl _ w)⟩)
set_option maxHeartbeats 2000000 in
theorem string_some (l:List UInt8) (h:Bld T B b tl (Lib.byteCells l) w) (h0:l≠[]) :
  Calls Tryz.prog 139 #[.pointer (some ⟨b,0,none⟩)] w fun e w'=>e=.returned (.string ⟨l.toArray⟩)/\(Bld T B b tl (Lib.byteCells l) w'/\Below B w w'/\Lib.OthersKept 5 (some b) w w'):=by
 obtain⟨p,hp,hAt⟩:∃ p,(p=.pointer none\/p=.pointer (some ⟨b,0,none⟩))/\BAt T B b p tl (Lib.byteCells l) w:=by
  rcases h with h | h
  ·exact⟨_,.inl rfl,h⟩
  ·exact⟨_,.inr rfl,h⟩
 obtain⟨hB,v,hbk,hown,hne,hv0⟩:=hAt;have hl0:l.length≠0:=by simpa using h0
 have hown2:=hown;rw[Lib.byteCells_length]at hown
 obtain⟨g,cap,cur,fz,rfl,hbg,hg,hfz,hnc,hcm,hcs,htake⟩:∃ g cap cur fz,v=.slice (some ⟨g,0,none⟩) l.length cap/\B<=g/\w.heap[g]?=some (.cells cur 5 fz)/\fz.2<=l.length*1/\l.length<=cap/\cap<=maxLen/\cur.size=cap*1/\cur.toList.take (l.length*1)=Lib.byteCells l:=by
  rcases hown.2 with ⟨_,hz⟩ | ⟨g,cap,cur,fz,hv,r⟩
  ·exact absurd hz hl0
  ·exact⟨g,cap,cur,fz,hv,r⟩
 have c1:w.drew.cell? ⟨b,1,none⟩=some (.slice (some ⟨g,0,none⟩) l.length cap):=by
  have:w.drew.heap[b]?=some (.cells (p::.slice (some ⟨g,0,none⟩) l.length cap::tl).toArray T (0,0)):=hbk;rw[Lib.cell_of_heap this];rfl
 have hSD:(Builtin.unsafeSliceData_ #[172] 202 #[.slice (some ⟨g,0,none⟩) l.length cap]).run Tryz.prog w.drew=.ok (.pointer (some ⟨g,0,none⟩)) w.drew :=
  Lib.run_unsafeSliceData_row _ _ _ _ _ _ (by omega)
 have hUS:(Builtin.unsafeString_ #[202,3] 9 #[.pointer (some ⟨g,0,none⟩),.int .i64 l.length]).run Tryz.prog w.drew=.ok (.string ⟨l.toArray⟩) (w.drew.freeze ⟨g,0,none⟩ l.length):=by
  refine Lib.run_unsafeString_row w.drew 202 3 9 5 Tryz.underlying202 (by kernel_rfl) g cur.size (by have hg':w.drew.heap[g]?=some (.cells cur 5 fz):=hg;simp[World.shape?,hg']) l h0 (by omega) (by unfold maxLen at hcm;omega) ?_;intro j x hx;have:=hown.cells (g:=g) rfl j (.int .u8 x.toNat) (by simp[Lib.byteCells,hx]);exact this
 have hgb:g≠b:=fun e=>hne (by simp[Value.ownBlock,e])
 have hA:BAt T B b p tl (Lib.byteCells l) (w.drew.freeze ⟨g,0,none⟩ l.length):=by
  unfold World.freeze;rw[if_neg hl0];obtain⟨lo,hi'⟩:=fz;refine⟨hB,_,?_,⟨hown2.1,.inr ⟨g,cap,cur,(if lo==hi' then (0,0+l.length)else (min lo 0,max hi' (0+l.length))),?_,hbg,?_,?_,?_,hcm,hcs,?_⟩⟩,hne,hv0⟩
  ·simp only[Array.getElem?_modify];rw[if_neg hgb];exact hbk
  ·rw[Lib.byteCells_length]
  ·have hg':w.drew.heap[g]?=some (.cells cur 5 (lo,hi')):=hg;simp[Array.getElem?_modify,hg']
  ·simp only at hfz;rw[Lib.byteCells_length];split<;>simp<;>omega
  ·rw[Lib.byteCells_length];exact hnc
  ·rw[Lib.byteCells_length];exact htake
 have HK:Hid (Bld T B b tl (Lib.byteCells l) (w.drew.freeze ⟨g,0,none⟩ l.length)):=by
  rcases hp with rfl | rfl
  ·exact .inl hA
  ·exact .inr hA
 have HO:Hid (Lib.OthersKept 5 (some b) w (w.drew.freeze ⟨g,0,none⟩ l.length)):=((Lib.OthersKept.refl _ _ w).drew).freeze ⟨g,0,none⟩ _ ⟨cur,fz,hg⟩;have HB:Hid (Below B w (w.drew.freeze ⟨g,0,none⟩ l.length)):=Lib.below_freeze (Below.drew (Below.refl B w)) (p:=⟨g,0,none⟩) hbg _;clear h hA hown hown2 hbk hg htake hv0 hne;go_enter Tryz.func139,Tryz.ntmps139;go_wp2;go_region
 all_goals (go_wp2;go_ret;exact⟨rfl,HK.out,HB.out,HO.out⟩)
theorem string_any (l:List UInt8) (h:Bld T B b tl (Lib.byteCells l) w) (hBw:B<=w.heap.size) :
  Calls Tryz.prog 139 #[.pointer (some ⟨b,0,none⟩)] w fun e w'=>e=.returned (.string (mk l))/\(Bld T B b tl (Lib.byteCells l) w'/\Below B w w'/\Lib.OthersKept 5 (some b) w w'):=by
 by_cases h0:l=[]
 ·subst h0;refine(string_empty h).mono ?_;rintro e w' ⟨rfl,h1,h2⟩;exact⟨rfl,h1,h2.mono hBw,kept_of_below h2⟩
 ·exact string_some l h h0
end Quo
namespace Quo
open Utf Rws
open Go.RowKit
theorem stands_any (n:Int) (w:World):Calls Tryz.prog 199 #[.int .i64 n] w fun e w'=>e=.returned (.bool (may n))/\w=w':=by
 have HM:Hid (may n=(prn n && !(n==9) && !(n==10) && !(n==13))):=rfl;cases c1:(n==9)
 ·cases c2:(n==10)
  ·cases c3:(n==13)
   ·go_enter Tryz.func199,Tryz.ntmps199;go_wp2_with (first | (go_at_call 60;refine(printable_any _ _).mono ?_;rintro e w' ⟨rfl,rfl⟩));go_ret;exact⟨by rw[HM.out,c1,c2,c3];simp,rfl⟩
   ·go_enter Tryz.func199,Tryz.ntmps199;go_wp2;go_ret;exact⟨by rw[HM.out,c3];simp,rfl⟩
  ·go_enter Tryz.func199,Tryz.ntmps199;go_wp2;go_ret;exact⟨by rw[HM.out,c2];simp,rfl⟩
 ·go_enter Tryz.func199,Tryz.ntmps199;go_wp2;go_ret;exact⟨by rw[HM.out,c1];simp,rfl⟩
/-! ### putSign -/
theorem bytes_one (n:Int):Utf.bytes [n]=byt n:=by simp[Utf.bytes]
theorem allS_one (n:Int):allS [n]=sgn n:=by simp[allS]
theorem cells_app (a b:List UInt8):Lib.byteCells (a++b)=Lib.byteCells a++Lib.byteCells b:=by simp[Lib.byteCells]
theorem strCells_mk (l:List UInt8):Lib.strCells (mk l)=Lib.byteCells l:=rfl
def sgb (n:Int):List UInt8:=if sgn n=true then u8s (byt n)else []
theorem sgb_len (n:Int):(sgb n).length<=4:=by
 unfold sgb;split
 ·simp[u8s];exact(byt_len n).2
 ·simp
variable {T:TypeId} {B b:Nat} {tl:List Value} {w:World}
theorem putSign_any (hT:Emb T (tl.length+2)) (n:Int) (out:List UInt8) (h:Bld T B b tl (Lib.byteCells out) w) (hlen:out.length+4<=140737488355328) (hBw:B<=w.heap.size) :
  Calls Tryz.prog 200 #[.pointer (some ⟨b,0,none⟩),.int .i64 n] w fun e w'=>e=.returned (.bool (sgn n))/\(Bld T B b tl (Lib.byteCells (out++sgb n)) w'/\Below B w w'/\Lib.OthersKept 5 (some b) w w'):=by
 have HE:=encode_any (some ⟨w.heap.size,0,none⟩) 1 1 [n] (w.alloc (.cells #[.int .i64 n] 3)) (ints_one w n 3) (by decide);have hb0:Below w.heap.size w (w.alloc (.cells #[.int .i64 n] 3)):=(Below.refl _ _).alloc (Nat.le_refl _) _;have hsl:=sgb_len n
 have e1:encS [n]=mk (sgb n):=by
  unfold encS sgb;rw[allS_one,bytes_one];split<;>rfl
 have e2:(encE [n]==0)=sgn n:=by
  unfold encE;rw[allS_one];cases sgn n<;>rfl
 obtain⟨E,hE⟩:∃ E,E=encE [n]:=⟨_,rfl⟩;obtain⟨S,hS⟩:∃ S,S=sgb n:=⟨_,rfl⟩;obtain⟨V,hV⟩:∃ V,V=sgn n:=⟨_,rfl⟩;rw[e1,<-hE,<-hS]at HE;rw[<-hE,<-hV]at e2;rw[<-hS,<-hV];rw[<-hS]at hsl;clear e1 hE hS hV
 have HC:Hid (Calls Tryz.prog 209 #[.slice (some ⟨w.heap.size,0,none⟩) 1 1] (w.alloc (.cells #[.int .i64 n] 3)) fun e w'=>e=.returned (.tuple #[.string (mk S),.int .i64 E])/\Below w.heap.size w w'/\Bld T B b tl (Lib.byteCells out) w'):=HE.mono (by
  rintro e w' ⟨h1,h2⟩;have h3:Below w.heap.size w w':=hb0.trans (h2.mono (by simp));exact⟨h1,h3,h.later h3⟩)
 clear HE hb0 h;have HT:Hid (Emb T (tl.length+2)):=hT;clear hT;go_enter Tryz.func200,Tryz.ntmps200;go_wp2_with (first | (go_at_call 209;refine HC.out.mono ?_;rintro e w1 ⟨rfl,hb1,hB1⟩) | (go_at_call 145;refine(writeString_any HT.out (mk S) hB1 (by rw[cells_len,mk_size];omega) (by have:=hb1.size;omega)).mono ?_;rintro e w2 ⟨rfl,hB2,hb2,hk2⟩));go_ret;rw[strCells_mk,<-cells_app]at hB2;exact⟨rfl,hB2,(hb1.mono hBw).trans hb2,(kept_of_below hb1).trans hk2⟩
end Quo
namespace Quo
open Utf Rws
open Go.RowKit
structure Tabs (w:World):Prop where
 sh:∃ t fz,w.heap[5]?=some (.cells #[.int .u8 34,.int .i64 34,.int .u8 92,.int .i64 92,.int .u8 110,.int .i64 10,.int .u8 116,.int .i64 9,.int .u8 114,.int .i64 13,.int .u8 48,.int .i64 0] t fz)
 nu:∃ t fz,w.heap[6]?=some (.cells #[.int .u8 120,.int .i64 2,.int .u8 117,.int .i64 4,.int .u8 85,.int .i64 8] t fz)
theorem Tabs.later {w w':World} (h:Tabs w) (hb:Below w.heap.size w w'):Tabs w':=by
 obtain⟨⟨t1,f1,h1⟩,⟨t2,f2,h2⟩⟩:=h;exact⟨⟨t1,f1,(hb.block _ (Array.getElem?_eq_some_iff.1 h1).1).trans h1⟩,⟨t2,f2,(hb.block _ (Array.getElem?_eq_some_iff.1 h2).1).trans h2⟩⟩
theorem Tabs.under {w w':World} {B:Nat} (h:Tabs w) (hb:Below B w w') (hB:7<=B):Tabs w':=by
 obtain⟨⟨t1,f1,h1⟩,⟨t2,f2,h2⟩⟩:=h;exact⟨⟨t1,f1,(hb.block _ (by omega)).trans h1⟩,⟨t2,f2,(hb.block _ (by omega)).trans h2⟩⟩
theorem Tabs.size {w:World} (h:Tabs w):7<=w.heap.size:=by
 obtain⟨_,⟨t2,f2,h2⟩⟩:=h;exact(Array.getElem?_eq_some_iff.1 h2).1
def mnt (c:UInt8):Option Int:=if c=34 then some 34 else if c=92 then some 92 else if c=110 then some 10 else if c=116 then some 9 else if c=114 then some 13 else if c=48 then some 0 else none
theorem lit_yes {c d:UInt8} (h:c=d):((d.toNat:Int)==(c.toNat:Int))=true:=by subst h;simp
theorem lit_no {c d:UInt8} (h:c≠d):((d.toNat:Int)==(c.toNat:Int))=false:=by
 simp only[beq_eq_false_iff_ne,ne_eq];intro e;exact h (UInt8.toNat_inj.1 (by omega))
set_option maxHeartbeats 1000000 in
theorem meant_any (c:UInt8) (w:World) (hT:Tabs w):Calls Tryz.prog 201 #[.int .u8 (c.toNat:Int)] w fun e w'=>e=.returned (.tuple #[.int .i64 ((mnt c).getD 0),.bool (mnt c).isSome])/\Below w.heap.size w w':=by
 obtain⟨t0,fz,hT⟩:=hT.sh;have g0:w.cell? ⟨5,0,none⟩=some (.int .u8 34):=by rw[Lib.cell_of_heap hT];rfl
 have g1:w.cell? ⟨5,1,none⟩=some (.int .i64 34):=by rw[Lib.cell_of_heap hT];rfl
 have g2:w.cell? ⟨5,2,none⟩=some (.int .u8 92):=by rw[Lib.cell_of_heap hT];rfl
 have g3:w.cell? ⟨5,3,none⟩=some (.int .i64 92):=by rw[Lib.cell_of_heap hT];rfl
 have g4:w.cell? ⟨5,4,none⟩=some (.int .u8 110):=by rw[Lib.cell_of_heap hT];rfl
 have g5:w.cell? ⟨5,5,none⟩=some (.int .i64 10):=by rw[Lib.cell_of_heap hT];rfl
 have g6:w.cell? ⟨5,6,none⟩=some (.int .u8 116):=by rw[Lib.cell_of_heap hT];rfl
 have g7:w.cell? ⟨5,7,none⟩=some (.int .i64 9):=by rw[Lib.cell_of_heap hT];rfl
 have g8:w.cell? ⟨5,8,none⟩=some (.int .u8 114):=by rw[Lib.cell_of_heap hT];rfl
 have g9:w.cell? ⟨5,9,none⟩=some (.int .i64 13):=by rw[Lib.cell_of_heap hT];rfl
 have g10:w.cell? ⟨5,10,none⟩=some (.int .u8 48):=by rw[Lib.cell_of_heap hT];rfl
 have g11:w.cell? ⟨5,11,none⟩=some (.int .i64 0):=by rw[Lib.cell_of_heap hT];rfl
 have x0:∀ w:World,(Instr.index 244 (.agg #[.int .u8 34,.int .i64 34,.int .u8 92,.int .i64 92,.int .u8 110,.int .i64 10,.int .u8 116,.int .i64 9,.int .u8 114,.int .i64 13,.int .u8 48,.int .i64 0]) (.int .i64 0)).run Tryz.prog w=.ok (.agg #[.int .u8 34,.int .i64 34]) w:=fun _=>by kernel_rfl
 have x1:∀ w:World,(Instr.index 244 (.agg #[.int .u8 34,.int .i64 34,.int .u8 92,.int .i64 92,.int .u8 110,.int .i64 10,.int .u8 116,.int .i64 9,.int .u8 114,.int .i64 13,.int .u8 48,.int .i64 0]) (.int .i64 1)).run Tryz.prog w=.ok (.agg #[.int .u8 92,.int .i64 92]) w:=fun _=>by kernel_rfl
 have x2:∀ w:World,(Instr.index 244 (.agg #[.int .u8 34,.int .i64 34,.int .u8 92,.int .i64 92,.int .u8 110,.int .i64 10,.int .u8 116,.int .i64 9,.int .u8 114,.int .i64 13,.int .u8 48,.int .i64 0]) (.int .i64 2)).run Tryz.prog w=.ok (.agg #[.int .u8 110,.int .i64 10]) w:=fun _=>by kernel_rfl
 have x3:∀ w:World,(Instr.index 244 (.agg #[.int .u8 34,.int .i64 34,.int .u8 92,.int .i64 92,.int .u8 110,.int .i64 10,.int .u8 116,.int .i64 9,.int .u8 114,.int .i64 13,.int .u8 48,.int .i64 0]) (.int .i64 3)).run Tryz.prog w=.ok (.agg #[.int .u8 116,.int .i64 9]) w:=fun _=>by kernel_rfl
 have x4:∀ w:World,(Instr.index 244 (.agg #[.int .u8 34,.int .i64 34,.int .u8 92,.int .i64 92,.int .u8 110,.int .i64 10,.int .u8 116,.int .i64 9,.int .u8 114,.int .i64 13,.int .u8 48,.int .i64 0]) (.int .i64 4)).run Tryz.prog w=.ok (.agg #[.int .u8 114,.int .i64 13]) w:=fun _=>by kernel_rfl
 have x5:∀ w:World,(Instr.index 244 (.agg #[.int .u8 34,.int .i64 34,.int .u8 92,.int .i64 92,.int .u8 110,.int .i64 10,.int .u8 116,.int .i64 9,.int .u8 114,.int .i64 13,.int .u8 48,.int .i64 0]) (.int .i64 5)).run Tryz.prog w=.ok (.agg #[.int .u8 48,.int .i64 0]) w:=fun _=>by kernel_rfl
 clear hT;go_enter Tryz.func201,Tryz.ntmps201;go_wp2;clear g0 g1 g2 g3 g4 g5 g6 g7 g8 g9 g10 g11
 go_loopw [7] (fun i wr=>∃ k:Int,0<=k/\k<=6/\i=.int .i64 k/\(0<k->c≠34)/\(1<k->c≠92)/\(2<k->c≠110)/\(3<k->c≠116)/\(4<k->c≠114)/\(5<k->c≠48)/\Below w.heap.size w wr) (fun i _=>6-(intOf i).toNat)
 case atStart=>exact⟨0,by decide,by decide,rfl,fun h=>absurd h (by decide),fun h=>absurd h (by decide),fun h=>absurd h (by decide),fun h=>absurd h (by decide),fun h=>absurd h (by decide),fun h=>absurd h (by decide),Below.refl _ _⟩
 case round =>
  obtain⟨k,hk0,hk,rfl,n0,n1,n2,n3,n4,n5,hbe⟩:=hrel;rcases(show k=0\/k=1\/k=2\/k=3\/k=4\/k=5\/k=6 by omega)with rfl | rfl | rfl | rfl | rfl | rfl | rfl
  ·by_cases hc:c=34
   ·have e:((34:Int)==(c.toNat:Int))=true:=lit_yes (d:=34) hc;have HX:Hid (mnt c=some 34):=by subst hc;exact rfl
    clear hc n0 n1 n2 n3 n4 n5;go_wp2;go_ret2;exact⟨by rw[HX.out];rfl,hbe.alloc hbe.size _⟩
   ·have e:((34:Int)==(c.toNat:Int))=false:=lit_no (d:=34) hc;have HN:Hid (((0:Int)<1->c≠34)/\((1:Int)<1->c≠92)/\((2:Int)<1->c≠110)/\((3:Int)<1->c≠116)/\((4:Int)<1->c≠114)/\((5:Int)<1->c≠48)):=⟨fun _=>hc,fun h=>absurd h (by decide),fun h=>absurd h (by decide),fun h=>absurd h (by decide),fun h=>absurd h (by decide),fun h=>absurd h (by decide)⟩;have hs:=hbe.size;clear hc n0 n1 n2 n3 n4 n5;go_wp2;go_roundw
    case rel=>exact⟨1,by decide,by decide,rfl,HN.out.1,HN.out.2.1,HN.out.2.2.1,HN.out.2.2.2.1,HN.out.2.2.2.2.1,HN.out.2.2.2.2.2,hbe.alloc hs _⟩
    case measure=>simp[intOf]
  ·by_cases hc:c=92
   ·have e:((92:Int)==(c.toNat:Int))=true:=lit_yes (d:=92) hc;have HX:Hid (mnt c=some 92):=by subst hc;exact rfl
    clear hc n0 n1 n2 n3 n4 n5;go_wp2;go_ret2;exact⟨by rw[HX.out];rfl,hbe.alloc hbe.size _⟩
   ·have e:((92:Int)==(c.toNat:Int))=false:=lit_no (d:=92) hc;have HN:Hid (((0:Int)<2->c≠34)/\((1:Int)<2->c≠92)/\((2:Int)<2->c≠110)/\((3:Int)<2->c≠116)/\((4:Int)<2->c≠114)/\((5:Int)<2->c≠48)):=⟨fun _=>n0 (by decide),fun _=>hc,fun h=>absurd h (by decide),fun h=>absurd h (by decide),fun h=>absurd h (by decide),fun h=>absurd h (by decide)⟩;have hs:=hbe.size;clear hc n0 n1 n2 n3 n4 n5;go_wp2;go_roundw
    case rel=>exact⟨2,by decide,by decide,rfl,HN.out.1,HN.out.2.1,HN.out.2.2.1,HN.out.2.2.2.1,HN.out.2.2.2.2.1,HN.out.2.2.2.2.2,hbe.alloc hs _⟩
    case measure=>simp[intOf]
  ·by_cases hc:c=110
   ·have e:((110:Int)==(c.toNat:Int))=true:=lit_yes (d:=110) hc;have HX:Hid (mnt c=some 10):=by subst hc;exact rfl
    clear hc n0 n1 n2 n3 n4 n5;go_wp2;go_ret2;exact⟨by rw[HX.out];rfl,hbe.alloc hbe.size _⟩
   ·have e:((110:Int)==(c.toNat:Int))=false:=lit_no (d:=110) hc;have HN:Hid (((0:Int)<3->c≠34)/\((1:Int)<3->c≠92)/\((2:Int)<3->c≠110)/\((3:Int)<3->c≠116)/\((4:Int)<3->c≠114)/\((5:Int)<3->c≠48)):=⟨fun _=>n0 (by decide),fun _=>n1 (by decide),fun _=>hc,fun h=>absurd h (by decide),fun h=>absurd h (by decide),fun h=>absurd h (by decide)⟩;have hs:=hbe.size;clear hc n0 n1 n2 n3 n4 n5;go_wp2;go_roundw
    case rel=>exact⟨3,by decide,by decide,rfl,HN.out.1,HN.out.2.1,HN.out.2.2.1,HN.out.2.2.2.1,HN.out.2.2.2.2.1,HN.out.2.2.2.2.2,hbe.alloc hs _⟩
    case measure=>simp[intOf]
  ·by_cases hc:c=116
   ·have e:((116:Int)==(c.toNat:Int))=true:=lit_yes (d:=116) hc;have HX:Hid (mnt c=some 9):=by subst hc;exact rfl
    clear hc n0 n1 n2 n3 n4 n5;go_wp2;go_ret2;exact⟨by rw[HX.out];rfl,hbe.alloc hbe.size _⟩
   ·have e:((116:Int)==(c.toNat:Int))=false:=lit_no (d:=116) hc;have HN:Hid (((0:Int)<4->c≠34)/\((1:Int)<4->c≠92)/\((2:Int)<4->c≠110)/\((3:Int)<4->c≠116)/\((4:Int)<4->c≠114)/\((5:Int)<4->c≠48)):=⟨fun _=>n0 (by decide),fun _=>n1 (by decide),fun _=>n2 (by decide),fun _=>hc,fun h=>absurd h (by decide),fun h=>absurd h (by decide)⟩;have hs:=hbe.size;clear hc n0 n1 n2 n3 n4 n5;go_wp2;go_roundw
    case rel=>exact⟨4,by decide,by decide,rfl,HN.out.1,HN.out.2.1,HN.out.2.2.1,HN.out.2.2.2.1,HN.out.2.2.2.2.1,HN.out.2.2.2.2.2,hbe.alloc hs _⟩
    case measure=>simp[intOf]
  ·by_cases hc:c=114
   ·have e:((114:Int)==(c.toNat:Int))=true:=lit_yes (d:=114) hc;have HX:Hid (mnt c=some 13):=by subst hc;exact rfl
    clear hc n0 n1 n2 n3 n4 n5;go_wp2;go_ret2;exact⟨by rw[HX.out];rfl,hbe.alloc hbe.size _⟩
   ·have e:((114:Int)==(c.toNat:Int))=false:=lit_no (d:=114) hc;have HN:Hid (((0:Int)<5->c≠34)/\((1:Int)<5->c≠92)/\((2:Int)<5->c≠110)/\((3:Int)<5->c≠116)/\((4:Int)<5->c≠114)/\((5:Int)<5->c≠48)):=⟨fun _=>n0 (by decide),fun _=>n1 (by decide),fun _=>n2 (by decide),fun _=>n3 (by decide),fun _=>hc,fun h=>absurd h (by decide)⟩;have hs:=hbe.size;clear hc n0 n1 n2 n3 n4 n5;go_wp2;go_roundw
    case rel=>exact⟨5,by decide,by decide,rfl,HN.out.1,HN.out.2.1,HN.out.2.2.1,HN.out.2.2.2.1,HN.out.2.2.2.2.1,HN.out.2.2.2.2.2,hbe.alloc hs _⟩
    case measure=>simp[intOf]
  ·by_cases hc:c=48
   ·have e:((48:Int)==(c.toNat:Int))=true:=lit_yes (d:=48) hc;have HX:Hid (mnt c=some 0):=by subst hc;exact rfl
    clear hc n0 n1 n2 n3 n4 n5;go_wp2;go_ret2;exact⟨by rw[HX.out];rfl,hbe.alloc hbe.size _⟩
   ·have e:((48:Int)==(c.toNat:Int))=false:=lit_no (d:=48) hc;have HN:Hid (((0:Int)<6->c≠34)/\((1:Int)<6->c≠92)/\((2:Int)<6->c≠110)/\((3:Int)<6->c≠116)/\((4:Int)<6->c≠114)/\((5:Int)<6->c≠48)):=⟨fun _=>n0 (by decide),fun _=>n1 (by decide),fun _=>n2 (by decide),fun _=>n3 (by decide),fun _=>n4 (by decide),fun _=>hc⟩;have hs:=hbe.size;clear hc n0 n1 n2 n3 n4 n5;go_wp2;go_roundw
    case rel=>exact⟨6,by decide,by decide,rfl,HN.out.1,HN.out.2.1,HN.out.2.2.1,HN.out.2.2.2.1,HN.out.2.2.2.2.1,HN.out.2.2.2.2.2,hbe.alloc hs _⟩
    case measure=>simp[intOf]
  ·have HX:Hid (mnt c=none):=by
    unfold mnt Hid;rw[if_neg (n0 (by decide)),if_neg (n1 (by decide)),if_neg (n2 (by decide)),if_neg (n3 (by decide)),if_neg (n4 (by decide)),if_neg (n5 (by decide))]
   clear n0 n1 n2 n3 n4 n5;go_wp2;go_ret2;exact⟨by rw[HX.out];rfl,hbe⟩
def dgs (c:UInt8):Nat:=if c=120 then 2 else if c=117 then 4 else if c=85 then 8 else 0
set_option maxHeartbeats 1000000 in
theorem digitsOf_any (c:UInt8) (w:World) (hT:Tabs w):Calls Tryz.prog 202 #[.int .u8 (c.toNat:Int)] w fun e w'=>e=.returned (.int .i64 (dgs c:Int))/\Below w.heap.size w w':=by
 obtain⟨t0,fz,hT⟩:=hT.nu;have g0:w.cell? ⟨6,0,none⟩=some (.int .u8 120):=by rw[Lib.cell_of_heap hT];rfl
 have g1:w.cell? ⟨6,1,none⟩=some (.int .i64 2):=by rw[Lib.cell_of_heap hT];rfl
 have g2:w.cell? ⟨6,2,none⟩=some (.int .u8 117):=by rw[Lib.cell_of_heap hT];rfl
 have g3:w.cell? ⟨6,3,none⟩=some (.int .i64 4):=by rw[Lib.cell_of_heap hT];rfl
 have g4:w.cell? ⟨6,4,none⟩=some (.int .u8 85):=by rw[Lib.cell_of_heap hT];rfl
 have g5:w.cell? ⟨6,5,none⟩=some (.int .i64 8):=by rw[Lib.cell_of_heap hT];rfl
 have x0:∀ w:World,(Instr.index 246 (.agg #[.int .u8 120,.int .i64 2,.int .u8 117,.int .i64 4,.int .u8 85,.int .i64 8]) (.int .i64 0)).run Tryz.prog w=.ok (.agg #[.int .u8 120,.int .i64 2]) w:=fun _=>by kernel_rfl
 have x1:∀ w:World,(Instr.index 246 (.agg #[.int .u8 120,.int .i64 2,.int .u8 117,.int .i64 4,.int .u8 85,.int .i64 8]) (.int .i64 1)).run Tryz.prog w=.ok (.agg #[.int .u8 117,.int .i64 4]) w:=fun _=>by kernel_rfl
 have x2:∀ w:World,(Instr.index 246 (.agg #[.int .u8 120,.int .i64 2,.int .u8 117,.int .i64 4,.int .u8 85,.int .i64 8]) (.int .i64 2)).run Tryz.prog w=.ok (.agg #[.int .u8 85,.int .i64 8]) w:=fun _=>by kernel_rfl
 clear hT;go_enter Tryz.func202,Tryz.ntmps202;go_wp2;clear g0 g1 g2 g3 g4 g5
 go_loopw [6] (fun i wr=>∃ k:Int,0<=k/\k<=3/\i=.int .i64 k/\(0<k->c≠120)/\(1<k->c≠117)/\(2<k->c≠85)/\Below w.heap.size w wr) (fun i _=>3-(intOf i).toNat)
 case atStart=>exact⟨0,by decide,by decide,rfl,fun h=>absurd h (by decide),fun h=>absurd h (by decide),fun h=>absurd h (by decide),Below.refl _ _⟩
 case round =>
  obtain⟨k,hk0,hk,rfl,n0,n1,n2,hbe⟩:=hrel;rcases(show k=0\/k=1\/k=2\/k=3 by omega)with rfl | rfl | rfl | rfl
  ·by_cases hc:c=120
   ·have e:((120:Int)==(c.toNat:Int))=true:=lit_yes (d:=120) hc;have HX:Hid (dgs c=2):=by subst hc;exact rfl
    clear hc n0 n1 n2;go_wp2;go_ret;exact⟨by rw[HX.out];rfl,hbe.alloc hbe.size _⟩
   ·have e:((120:Int)==(c.toNat:Int))=false:=lit_no (d:=120) hc;have HN:Hid (((0:Int)<1->c≠120)/\((1:Int)<1->c≠117)/\((2:Int)<1->c≠85)):=⟨fun _=>hc,fun h=>absurd h (by decide),fun h=>absurd h (by decide)⟩;have hs:=hbe.size;clear hc n0 n1 n2;go_wp2;go_roundw
    case rel=>exact⟨1,by decide,by decide,rfl,HN.out.1,HN.out.2.1,HN.out.2.2,hbe.alloc hs _⟩
    case measure=>simp[intOf]
  ·by_cases hc:c=117
   ·have e:((117:Int)==(c.toNat:Int))=true:=lit_yes (d:=117) hc;have HX:Hid (dgs c=4):=by subst hc;exact rfl
    clear hc n0 n1 n2;go_wp2;go_ret;exact⟨by rw[HX.out];rfl,hbe.alloc hbe.size _⟩
   ·have e:((117:Int)==(c.toNat:Int))=false:=lit_no (d:=117) hc;have HN:Hid (((0:Int)<2->c≠120)/\((1:Int)<2->c≠117)/\((2:Int)<2->c≠85)):=⟨fun _=>n0 (by decide),fun _=>hc,fun h=>absurd h (by decide)⟩;have hs:=hbe.size;clear hc n0 n1 n2;go_wp2;go_roundw
    case rel=>exact⟨2,by decide,by decide,rfl,HN.out.1,HN.out.2.1,HN.out.2.2,hbe.alloc hs _⟩
    case measure=>simp[intOf]
  ·by_cases hc:c=85
   ·have e:((85:Int)==(c.toNat:Int))=true:=lit_yes (d:=85) hc;have HX:Hid (dgs c=8):=by subst hc;exact rfl
    clear hc n0 n1 n2;go_wp2;go_ret;exact⟨by rw[HX.out];rfl,hbe.alloc hbe.size _⟩
   ·have e:((85:Int)==(c.toNat:Int))=false:=lit_no (d:=85) hc;have HN:Hid (((0:Int)<3->c≠120)/\((1:Int)<3->c≠117)/\((2:Int)<3->c≠85)):=⟨fun _=>n0 (by decide),fun _=>n1 (by decide),fun _=>hc⟩;have hs:=hbe.size;clear hc n0 n1 n2;go_wp2;go_roundw
    case rel=>exact⟨3,by decide,by decide,rfl,HN.out.1,HN.out.2.1,HN.out.2.2,hbe.alloc hs _⟩
    case measure=>simp[intOf]
  ·have HX:Hid (dgs c=0):=by
    unfold dgs Hid;rw[if_neg (n0 (by decide)),if_neg (n1 (by decide)),if_neg (n2 (by decide))]
   clear n0 n1 n2;go_wp2;go_ret;exact⟨by rw[HX.out];rfl,hbe⟩
end Quo
namespace Quo
open Utf Rws
open Go.RowKit
theorem dig_bd (c:UInt8): -1<=dig c/\dig c<=15:=by
 unfold dig;split
 ·omega
 split
 ·omega
 split<;>omega
theorem digit_any (c:UInt8) (w:World):Calls Tryz.prog 210 #[.int .u8 (c.toNat:Int)] w fun e w'=>e=.returned (.int .i64 (dig c))/\w=w':=by
 have hb:c.toNat<256:=c.toNat_lt;obtain⟨x,hx⟩:∃ x,x=c.toNat:=⟨_,rfl⟩;have HX:Hid (dig c=if 48<=x/\x<=57 then (x:Int)-48 else if 97<=x/\x<=102 then (x:Int)-87 else if 65<=x/\x<=70 then (x:Int)-55 else -1):=by rw[hx];exact rfl
 rw[<-hx]at hb |-;clear hx;by_cases a:x<48
 ·have HV:Hid (dig c= -1):=by rw[HX.out,if_neg (by omega),if_neg (by omega),if_neg (by omega)];exact rfl
  go_enter Tryz.func210,Tryz.ntmps210;go_wp2;go_ret;exact⟨by rw[HV.out];rfl,rfl⟩
 by_cases a2:x<=57
 ·have HV:Hid (dig c=(x:Int)-48):=by rw[HX.out,if_pos (by omega)];exact rfl
  go_enter Tryz.func210,Tryz.ntmps210;go_wp2;go_ret;exact⟨by rw[HV.out];simp,rfl⟩
 by_cases a3:x<65
 ·have HV:Hid (dig c= -1):=by rw[HX.out,if_neg (by omega),if_neg (by omega),if_neg (by omega)];exact rfl
  go_enter Tryz.func210,Tryz.ntmps210;go_wp2;go_ret;exact⟨by rw[HV.out];rfl,rfl⟩
 by_cases a4:x<=70
 ·have HV:Hid (dig c=(x:Int)-65+10):=by rw[HX.out,if_neg (by omega),if_neg (by omega),if_pos (by omega)];unfold Hid;omega
  go_enter Tryz.func210,Tryz.ntmps210;go_wp2;go_ret;exact⟨by rw[HV.out];simp,rfl⟩
 by_cases a5:x<97
 ·have HV:Hid (dig c= -1):=by rw[HX.out,if_neg (by omega),if_neg (by omega),if_neg (by omega)];exact rfl
  go_enter Tryz.func210,Tryz.ntmps210;go_wp2;go_ret;exact⟨by rw[HV.out];rfl,rfl⟩
 by_cases a6:x<=102
 ·have HV:Hid (dig c=(x:Int)-97+10):=by rw[HX.out,if_neg (by omega),if_pos (by omega)];unfold Hid;omega
  go_enter Tryz.func210,Tryz.ntmps210;go_wp2;go_ret;exact⟨by rw[HV.out];simp,rfl⟩
 ·have HV:Hid (dig c= -1):=by rw[HX.out,if_neg (by omega),if_neg (by omega),if_neg (by omega)];exact rfl
  go_enter Tryz.func210,Tryz.ntmps210;go_wp2;go_ret;exact⟨by rw[HV.out];rfl,rfl⟩
theorem or16 (x d:Int) (h0:0<=x) (h1:x<=68719476735) (d0:0<=d) (d1:d<=15):bits .or .i64 (x*16) d=x*16+d:=by
 obtain⟨n,rfl⟩:=Int.eq_ofNat_of_zero_le h0;obtain⟨m,rfl⟩:=Int.eq_ofNat_of_zero_le d0;have e2:((n:Int)*16)=((n*16:Nat):Int):=by omega
 rw[e2];show IntKind.i64.wrap ((BitVec.ofInt 64 ((n*16:Nat):Int) ||| BitVec.ofInt 64 ((m:Nat):Int)).toNat:Int)=_;rw[BitVec.toNat_or,ofInt_u64 _ (by omega),ofInt_u64 _ (by omega),nat_join 4 _ _ (by omega) (by omega),Utf.wrap_small _ (by omega)];omega
theorem drop_cons {l:List UInt8} {j:Nat} (h:j<l.length):l.drop j=l.getD j 0::l.drop (j+1):=by
 rw[List.drop_eq_getElem_cons h,List.getD_eq_getElem?_getD,List.getElem?_eq_getElem h];rfl
theorem getD_mk (l:List UInt8) (k:Nat) (h:k<(mk l).size):(mk l)[k]'h=l.getD k 0:=by
 rw[mk_get,List.getD_eq_getElem?_getD,List.getElem?_eq_getElem (by rw[mk_size]at h;exact h)];rfl
theorem numberOf_any (l:List UInt8) (k:Nat) (w:World) (hk:k<=8) (hs:l.length<=9223372036854775000) :
  Calls Tryz.prog 203 #[.string (mk l),.int .i64 (k:Int)] w fun e w'=>e=.returned (.tuple #[.int .i64 (hexR k l 0).1,.int .i64 ((hexR k l 0).2:Int)])/\w=w':=by
 have hsz:=mk_size l;obtain⟨N,hN⟩:∃ N,N=l.length:=⟨_,rfl⟩;rw[<-hN]at hsz hs;have HN:Hid (N=l.length):=hN;clear hN;go_enter Tryz.func203,Tryz.ntmps203;go_wp2
 go_loop [6,10] (fun n i=>∃ (j:Nat) (x:Int),j<=k/\j<=N/\0<=x/\x+1<=16 ^ j/\i=.int .i64 (j:Int)/\n=.int .i64 x/\hexR k l 0=hexR (k-j) (l.drop j) x) (fun _ i=>k-(intOf i).toNat)
 case atStart=>exact⟨0,0,Nat.zero_le _,Nat.zero_le _,by decide,by decide,rfl,rfl,by simp⟩
 case round =>
  obtain⟨j,x,hj,hjN,hx0,hx1,rfl,rfl,hc⟩:=hrel;have HC:Hid (hexR k l 0=hexR (k-j) (l.drop j) x):=hc
  have hx2:x<=68719476735:=by
   have:(16:Int) ^ j<=16 ^ 8:=by
    rcases(show j=0\/j=1\/j=2\/j=3\/j=4\/j=5\/j=6\/j=7\/j=8 by omega)with rfl | rfl | rfl | rfl | rfl | rfl | rfl | rfl | rfl<;>decide
   omega
  have HX1:Hid (x+1<=16 ^ j):=hx1;clear hc hx1;by_cases hlt:j<k
  ·by_cases hj2:j=N
   ·have HV:Hid (hexR k l 0=(0,4)):=by
     rw[HC.out,List.drop_of_length_le (by rw[<-HN.out];omega)];obtain⟨m,hm⟩:∃ m,k-j=m+1:=⟨k-j-1,by omega⟩;rw[hm];exact rfl
    have hq:((j:Int)==(N:Int))=true:=by simp;omega
    have HJ:Hid (j=N):=hj2;clear hj2;go_wp2;go_ret2;exact⟨by rw[HV.out];rfl,rfl⟩
   ·have hjl:j<N:=by omega
    have hq:((j:Int)==(N:Int))=false:=by simp;omega
    have hg:∀ h,(mk l)[j]'h=l.getD j 0:=fun h=>getD_mk l j h
    have hdr:l.drop j=l.getD j 0::l.drop (j+1):=drop_cons (by rw[<-HN.out];exact hjl);obtain⟨m,hm⟩:∃ m,k-j=m+1:=⟨k-j-1,by omega⟩
    have hstep:hexR (k-j) (l.drop j) x=if dig (l.getD j 0)<0 then (0,3)else hexR m (l.drop (j+1)) (x*16+dig (l.getD j 0)):=by
     rw[hm,hdr];rfl
    have hmm:m=k-(j+1):=by omega
    rw[hmm]at hstep;generalize l.getD j 0=c at hg hstep;have hbd:=dig_bd c;obtain⟨D,hD⟩:∃ D,D=dig c:=⟨_,rfl⟩;have HDG:Hid (∀ w,Calls Tryz.prog 210 #[.int .u8 (c.toNat:Int)] w fun e w'=>e=.returned (.int .i64 D)/\w=w'):=fun w=>by rw[hD];exact digit_any c w
    rw[<-hD]at hstep hbd;clear hD hdr hm hmm;by_cases hneg:D<0
    ·have HV:Hid (hexR k l 0=(0,3)):=by rw[HC.out,hstep,if_pos hneg];exact rfl
     clear hstep;go_wp2_with (first | (go_at_call 210;refine(HDG.out _).mono ?_;rintro e w' ⟨rfl,rfl⟩));go_ret2;exact⟨by rw[HV.out];rfl,rfl⟩
    ·have HV:Hid (hexR k l 0=hexR (k-(j+1)) (l.drop (j+1)) (x*16+D)):=by rw[HC.out,hstep,if_neg hneg];exact rfl
     have hO:=or16 x D hx0 hx2 (by omega) (by omega);have HO:Hid (bits .or .i64 (x*16) D=x*16+D):=hO;clear hstep hO;go_wp2_with (first | (go_at_call 210;refine(HDG.out _).mono ?_;rintro e w' ⟨rfl,rfl⟩));go_round
     case rel=>exact⟨j+1,x*16+D,by omega,by omega,by omega,by have:=HX1.out;rw[Int.pow_succ];omega,by go_num,by rw[HO.out],HV.out⟩
     case measure=>simp[intOf];omega
  ·have HV:Hid (hexR k l 0=(x,0)):=by
    rw[HC.out,show k-j=0 by omega];exact rfl
   go_wp2;go_ret2;exact⟨by rw[HV.out];rfl,rfl⟩
end Quo
end Go.Proofs.YtalijhclfppohaaGreatDoor
