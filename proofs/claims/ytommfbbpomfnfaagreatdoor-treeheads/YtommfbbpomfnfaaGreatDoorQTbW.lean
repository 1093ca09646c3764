/- . -/
import Derived.Test.YtommfbbpomfnfaaGreatDoorQFbE
import Derived.Test.YtommfbbpomfnfaaGreatDoorQTbF
import Derived.Test.YtommfbbpomfnfaaGreatDoorQTreeKey
import Derived.Test.YtommfbbpomfnfaaGreatDoorQTbU
import Derived.Test.YtommfbbpomfnfaaGreatDoorQTbV
import Derived.Test.YtommfbbpomfnfaaGreatDoorQFlowRsame
import Derived.Test.YtommfbbpomfnfaaGreatDoorQTbQ
set_option linter.unusedSimpArgs false
set_option linter.unusedVariables false
set_option maxRecDepth 100000
namespace Go.Proofs.YtommfbbpomfnfaaGreatDoor
namespace Tre
open Utf Rws Pln Flw
open Go.RowKit
set_option maxHeartbeats 2000000
theorem getD_mkT (l:Ln) (n:Nat) (h:n<(mk l).size):(mk l)[n]'h=l.getD n 0:=by
 rw[mk_get,List.getD_eq_getElem?_getD,List.getElem?_eq_getElem (by rw[mk_size]at h;exact h)];rfl
theorem gaps_at (l:Ln) (n:Nat) (h:n<l.length) (h32:l.getD n 0=32):gaps (l.drop n)=gaps (l.drop (n+1)):=by
 rw[List.drop_eq_getElem_cons h]
 have e:l[n]=32:=by
  rw[List.getD_eq_getElem?_getD,List.getElem?_eq_getElem h]at h32;exact h32
 rw[e,gaps_32]
theorem gaps_stop (l:Ln) (n:Nat) (h:n<l.length) (h32:l.getD n 0≠32):gaps (l.drop n)=l.drop n:=by
 rw[List.drop_eq_getElem_cons h]
 have e:l[n]≠32:=by
  rw[List.getD_eq_getElem?_getD,List.getElem?_eq_getElem h]at h32;exact h32
 rw[gaps_cons _ e]
theorem rgaps_any (l:Ln) (w:World) (hl:l.length<=140737488355328):Calls Tryz.prog 25 #[.string (mk l)] w fun e w'=>e=.returned (.int .i64 ((l.length-(gaps l).length:Nat):Int))/\w=w':=by
 have hsz:=mk_size l;go_enter Tryz.func25,Tryz.ntmps25;go_wp2
 go_loop [3] (fun u=>∃ n:Nat,n<=l.length/\u=.int .i64 (n:Int)/\gaps l=gaps (l.drop n)) (fun u=>l.length-(intOf u).toNat)
 case atStart=>exact⟨0,Nat.zero_le _,rfl,by simp⟩
 case round =>
  obtain⟨n,hn,rfl,hg⟩:=hrel;have HG:Hid (gaps l=gaps (l.drop n)):=hg;clear hg;by_cases hlt:n<l.length
  ·have hgd:∀ h,(mk l)[n]'h=l.getD n 0:=fun h=>getD_mkT l n h
   have hlt':n<(mk l).size:=by rw[mk_size];exact hlt
   by_cases h32:l.getD n 0=32
   ·have HN:Hid (gaps l=gaps (l.drop (n+1))):=HG.out.trans (gaps_at l n hlt h32);rw[h32]at hgd;clear h32;go_wp2;go_round
    case rel=>exact⟨n+1,by omega,by go_num,HN.out⟩
    case measure=>simp[intOf];omega
   ·have HE:Hid ((l.length-(gaps l).length:Nat)=n):=by
     rw[HG.out,gaps_stop l n hlt h32,List.length_drop];show _=_;omega
    have hb:(((l.getD n 0).toNat:Int)==32)=false:=by
     rw[Rws.b32];unfold is32;simpa using h32
    clear h32;generalize l.getD n 0=b at *;go_wp2;go_ret;exact⟨by rw[HE.out];rfl,rfl⟩
  ·have HE:Hid ((l.length-(gaps l).length:Nat)=l.length):=by
    rw[HG.out,List.drop_eq_nil_of_le (by omega)];show _=_;simp[gaps_nil]
   obtain rfl:n=l.length:=by omega
   go_wp2;go_ret;exact⟨by rw[HE.out];rfl,rfl⟩
theorem ritem_any (l:Ln) (w:World) (hl:l.length<=140737488355328):Calls Tryz.prog 10 #[.string (mk l)] w fun e w'=>e=.returned (.tuple #[.string (mk (itR l)),.int .i64 (itN l:Int),.bool (isIt l)])/\w=w':=by
 have hsz:=mk_size l
 cases l with
 | nil =>
  have he:((mk []).toList==[])=true:=by rw[ByteArray.toList_eq,mk_data];rfl
  have he2:(mk []).toList.isEmpty=true:=by rw[ByteArray.toList_eq,mk_data];rfl
  go_enter Tryz.func10,Tryz.ntmps10;go_wp2;exact bodyPost_ret (v:=.tuple #[.string ⟨#[]⟩,.int .i64 0,.bool false]) (by simp[results,Tryz.results10,go_sem]) rfl ⟨rfl,rfl⟩
 | cons b r =>
  have he:((mk (b::r)).toList==[])=false:=by rw[ByteArray.toList_eq,mk_data];rfl
  have he2:(mk (b::r)).toList.isEmpty=false:=by rw[ByteArray.toList_eq,mk_data];rfl
  have hlen:(b::r).length=r.length+1:=rfl;have g0:∀ h,(mk (b::r))[0]'h=b:=fun h=>getD_mkT (b::r) 0 h
  by_cases hb:b=45
  ·subst hb
   cases r with
   | nil =>
    have hext:(mk [45]).extract 1 1=mk []:=by rw[mk_ext];rfl
    have HG:Hid (∀ w0,Calls Tryz.prog 25 #[.string (mk [])] w0 fun e w'=>e=.returned (.int .i64 0)/\w0=w'):=fun w0=>rgaps_any [] w0 (by simp)
    have hs1:(mk [45]).size=1:=rfl;go_enter Tryz.func10,Tryz.ntmps10;go_wp2_with (go_at_call 25;refine(HG.out _).mono ?_;rintro e w' ⟨rfl,rfl⟩);exact bodyPost_ret (v:=.tuple #[.string (mk []),.int .i64 1,.bool true]) (by simp[results,Tryz.results10,go_sem,hext];rfl) rfl ⟨rfl,rfl⟩
   | cons d q =>
    have g1:∀ h,(mk (45::d::q))[1]'h=d:=fun h=>getD_mkT (45::d::q) 1 h
    have hlen2:(d::q).length=q.length+1:=rfl;by_cases hd32:d=32
    ·subst hd32;have hgl:=gaps_len (32::q);have HI:Hid (isIt (45::32::q)=true):=rfl
     have HR:Hid (itR (45::32::q)=gaps (32::q)/\(itN (45::32::q):Int)=((q.length+2:Nat):Int)-((gaps (32::q)).length:Int)):=by
      unfold itR itN;rw[HI.out];refine⟨rfl,?_⟩;simp only[if_true];show (((q.length+2)-(gaps (32::q)).length:Nat):Int)=_;rw[List.length_cons]at hgl;omega
     have HG:Hid (∀ w0,Calls Tryz.prog 25 #[.string (mk (32::q))] w0 fun e w'=>e=.returned (.int .i64 (((32::q).length-(gaps (32::q)).length:Nat):Int))/\w0=w'):=fun w0=>rgaps_any _ w0 (by have h1:(32::q).length=q.length+1:=rfl;have h2:(45::32::q).length=q.length+2:=rfl;omega)
     have hext:(mk (45::32::q)).extract 1 (q.length+2)=mk (32::q):=by rw[mk_ext];congr 1;simp
     obtain⟨G,HGG⟩:∃ G,Hid (G=(32::q).length-(gaps (32::q)).length):=⟨_,rfl⟩;rw[<-HGG.out]at HG
     have hext2:(mk (45::32::q)).extract (1+G) (q.length+2)=mk (gaps (32::q)):=by
      have hdw:gaps (32::q)=(32::q).drop ((32::q).length-(gaps (32::q)).length):=by
       have:=List.dropWhile_suffix is32 (l:=32::q);exact(List.suffix_iff_eq_drop.1 this)
      rw[mk_ext,HGG.out];congr 1;rw[show 1+((32::q).length-(gaps (32::q)).length)=((32::q).length-(gaps (32::q)).length)+1 by omega,List.drop_succ_cons,<-hdw];apply List.take_of_length_le;rw[List.length_cons]at *;omega
     have hG1:G<=q.length+1:=by have:=HGG.out;rw[hlen2]at this;omega
     have hsz2:(mk (45::32::q)).size=q.length+2:=by rw[mk_size];rfl
     have hGi:((1:Int)+(G:Int))=((q.length+2:Nat):Int)-((gaps (32::q)).length:Int):=by
      have:=HGG.out;rw[hlen2]at this hgl;omega
     have hnb:q.length<=140737488355328:=by have h2:(45::32::q).length=q.length+2:=rfl;omega
     rw[HR.out.1,HR.out.2,HI.out];rw[<-hGi];generalize mk (gaps (32::q))=T at *;generalize mk (32::q)=D at *;generalize mk (45::32::q)=S at *;clear HR HI hGi HGG hgl hsz hlen;generalize q.length=n at *;go_enter Tryz.func10,Tryz.ntmps10;go_wp2_with (go_at_call 25;refine(HG.out _).mono ?_;rintro e w' ⟨rfl,rfl⟩);exact bodyPost_ret (v:=.tuple #[.string T,.int .i64 (1+(G:Int)),.bool true]) (by simp[results,Tryz.results10,go_sem,hext2]) rfl ⟨rfl,rfl⟩
    ·have HI:Hid (isIt (45::d::q)=false):=by
      unfold isIt eMk;show (true && (false || d==32))=false;simpa using hd32
     have HR:Hid (itR (45::d::q)=[]/\itN (45::d::q)=0):=by unfold itR itN;rw[HI.out];exact⟨rfl,rfl⟩
     have hd2:((d.toNat:Int)!=32)=true:=by
      have:=Rws.b32 d;unfold bne;rw[this];unfold is32;simpa using hd32
     have hd3:((d.toNat:Int)==32)=false:=by rw[Rws.b32];unfold is32;simpa using hd32
     rw[HR.out.1,HR.out.2,HI.out];have hs2:1<(mk (45::d::q)).size:=by rw[mk_size,hlen,hlen2];omega
     generalize mk (45::d::q)=S at *;clear HR HI hd32;go_enter Tryz.func10,Tryz.ntmps10;go_wp2;exact bodyPost_ret (v:=.tuple #[.string ⟨#[]⟩,.int .i64 0,.bool false]) (by simp[results,Tryz.results10,go_sem]) rfl ⟨rfl,rfl⟩
  ·have HI:Hid (isIt (b::r)=false):=by
    unfold isIt;rw[hd_cons,show (b==45)=false by simpa using hb];exact rfl
   have HR:Hid (itR (b::r)=[]/\itN (b::r)=0):=by unfold itR itN;rw[HI.out];exact⟨rfl,rfl⟩
   have hb2:((b.toNat:Int)==45)=false:=by
    rw[beq_eq_false_iff_ne];intro e;apply hb;apply UInt8.toNat_inj.1;show b.toNat=45;omega
   have hb3:((b.toNat:Int)!=45)=true:=by unfold bne;rw[hb2];rfl
   have hs2:0<(mk (b::r)).size:=by rw[mk_size,hlen];omega
   rw[HR.out.1,HR.out.2,HI.out];generalize mk (b::r)=S at *;clear HR HI hb;go_enter Tryz.func10,Tryz.ntmps10;go_wp2;exact bodyPost_ret (v:=.tuple #[.string ⟨#[]⟩,.int .i64 0,.bool false]) (by simp[results,Tryz.results10,go_sem]) rfl ⟨rfl,rfl⟩
end Tre
namespace Tre
open Utf Rws Pln Flw
open Go.RowKit
set_option maxHeartbeats 2000000
def bhO (l:Ln) (n:Nat):Bool:=hd (l.drop n)==58 && eMk (l.drop (n+1))
def bhR (l:Ln) (n:Nat):Ln:=if bhO l n=true then gaps (l.drop (n+1))else []
def bhN (l:Ln) (n:Nat):Nat:=if bhO l n=true then l.length-(gaps (l.drop (n+1))).length else 0
theorem hd_drop (l:Ln) (n:Nat):hd (l.drop n)=l.getD n 0:=by
 by_cases h:n<l.length
 ·rw[List.drop_eq_getElem_cons h,hd_cons,List.getD_eq_getElem?_getD,List.getElem?_eq_getElem h];rfl
 ·rw[List.drop_eq_nil_of_le (by omega),List.getD_eq_getElem?_getD,List.getElem?_eq_none (by omega)];rfl
theorem bh_no {l:Ln} {n:Nat} (h:bhO l n=false):bhR l n=[]/\bhN l n=0:=by
 unfold bhR bhN;rw[h];exact⟨rfl,rfl⟩
theorem rbehind_any (l:Ln) (n:Nat) (w:World) (hl:l.length<=140737488355328) (hn:n<=l.length):Calls Tryz.prog 31 #[.string (mk l),.int .i64 (n:Int)] w fun e w'=>e=.returned (.tuple #[.string (mk (bhR l n)),.int .i64 (bhN l n:Int),.bool (bhO l n)])/\w=w':=by
 have hsz:=mk_size l;by_cases hlt:n<l.length
 ·have g0:∀ h,(mk l)[n]'h=l.getD n 0:=fun h=>getD_mkT l n h
  have hlt':n<(mk l).size:=by rw[mk_size];exact hlt
  by_cases hb:l.getD n 0=58
  ·by_cases he:eMk (l.drop (n+1))=true
   ·have HO:Hid (bhO l n=true):=by unfold bhO;rw[hd_drop,hb,he];exact rfl
    have hgl:=gapsL (l.drop (n+1));have hdl:(l.drop (n+1)).length=l.length-(n+1):=List.length_drop
    have HR:Hid (bhR l n=gaps (l.drop (n+1))/\bhN l n=l.length-(gaps (l.drop (n+1))).length):=by
     unfold bhR bhN;rw[HO.out];exact⟨rfl,rfl⟩
    have HG:Hid (∀ w0,Calls Tryz.prog 25 #[.string (mk (l.drop (n+1)))] w0 fun e w'=>e=.returned (.int .i64 (((l.drop (n+1)).length-(gaps (l.drop (n+1))).length:Nat):Int))/\w0=w'):=fun w0=>rgaps_any _ w0 (by omega)
    have hext:(mk l).extract (n+1) l.length=mk (l.drop (n+1)):=by rw[mk_ext];congr 1;exact List.take_of_length_le (by omega)
    obtain⟨G,HGG⟩:∃ G,Hid (G=(l.drop (n+1)).length-(gaps (l.drop (n+1))).length):=⟨_,rfl⟩;have hGG:=HGG.out;rw[<-hGG]at HG
    have hext2:(mk l).extract (n+1+G) l.length=mk (gaps (l.drop (n+1))):=by
     have hdw:gaps (l.drop (n+1))=(l.drop (n+1)).drop ((l.drop (n+1)).length-(gaps (l.drop (n+1))).length):=by
      have:=List.dropWhile_suffix is32 (l:=l.drop (n+1));exact(List.suffix_iff_eq_drop.1 this)
     rw[mk_ext];congr 1;rw[<-hGG,List.drop_drop]at hdw;rw[<-hdw];exact List.take_of_length_le (by omega)
    have hG1:n+1+G<=l.length:=by omega
    have hN:bhN l n=n+1+G:=by rw[HR.out.2];omega
    rw[HR.out.1,hN,HO.out]
    have g1:Hid (∀ (h:n+1<(mk l).size),(mk l)[n+1]'h=32):=fun h=>by
     rw[getD_mkT,<-hd_drop];rw[mk_size]at h;unfold eMk at he
     have hne:(l.drop (n+1)==[])=false:=by
      rw[beq_eq_false_iff_ne];intro e;have:=congrArg List.length e;rw[List.length_drop,List.length_nil]at this;omega
     rw[hne,Bool.false_or]at he;simpa using he
    rw[hb]at g0;clear HR HO HGG hGG hgl hb he hN hdl;generalize mk (gaps (l.drop (n+1)))=T at *;generalize mk (l.drop (n+1))=D at *;generalize mk l=S at *;generalize l.length=len at *;by_cases h1:n+1<len
    ·have hlt1:n+1<S.size:=by omega
     have g2:∀ (h:n+1<S.size),S[n+1]'h=32:=g1.out;clear g1;go_enter Tryz.func31,Tryz.ntmps31;go_wp2_with (go_at_call 25;refine(HG.out _).mono ?_;rintro e w' ⟨rfl,rfl⟩);exact bodyPost_ret (v:=.tuple #[.string T,.int .i64 ((n+1+G:Nat):Int),.bool true]) (by simp[results,Tryz.results31,go_sem,hext2]) rfl ⟨rfl,rfl⟩
    ·clear g1;go_enter Tryz.func31,Tryz.ntmps31;go_wp2_with (go_at_call 25;refine(HG.out _).mono ?_;rintro e w' ⟨rfl,rfl⟩);exact bodyPost_ret (v:=.tuple #[.string T,.int .i64 ((n+1+G:Nat):Int),.bool true]) (by simp[results,Tryz.results31,go_sem,hext2]) rfl ⟨rfl,rfl⟩
   ·have hef:eMk (l.drop (n+1))=false:=by simpa using he
    have HO:bhO l n=false:=by unfold bhO;rw[hef,Bool.and_false]
    have h1:n+1<l.length:=by
     rcases Nat.lt_or_ge (n+1) l.length with h | h
     ·exact h
     ·rw[List.drop_eq_nil_of_le h]at hef;exact absurd hef (by decide)
    have h32:l.getD (n+1) 0≠32:=by
     intro e;rw[<-hd_drop]at e;unfold eMk at hef;rw[e]at hef;simp at hef
    have g1:∀ h,(mk l)[n+1]'h=l.getD (n+1) 0:=fun h=>getD_mkT l (n+1) h
    have hq:(((l.getD (n+1) 0).toNat:Int)==32)=false:=by rw[Rws.b32];unfold is32;simpa using h32
    have hq2:(((l.getD (n+1) 0).toNat:Int)!=32)=true:=by unfold bne;rw[hq];rfl
    rw[(bh_no HO).1,(bh_no HO).2,HO];rw[hb]at g0;clear hb he hef HO h32;generalize l.getD (n+1) 0=d at *;generalize mk l=S at *;generalize l.length=len at *;have hlt1:n+1<S.size:=by omega
    go_enter Tryz.func31,Tryz.ntmps31;go_wp2;exact bodyPost_ret (v:=.tuple #[.string ⟨#[]⟩,.int .i64 0,.bool false]) (by simp[results,Tryz.results31,go_sem]) rfl ⟨rfl,rfl⟩
  ·have HO:bhO l n=false:=by unfold bhO;rw[hd_drop,show (l.getD n 0==58)=false by simpa using hb];rfl
   rw[(bh_no HO).1,(bh_no HO).2,HO]
   have hq:(((l.getD n 0).toNat:Int)==58)=false:=by
    rw[beq_eq_false_iff_ne];intro e;apply hb;apply UInt8.toNat_inj.1;show (l.getD n 0).toNat=58;omega
   have hq2:(((l.getD n 0).toNat:Int)!=58)=true:=by unfold bne;rw[hq];rfl
   clear hb HO;generalize l.getD n 0=d at *;generalize mk l=S at *;generalize l.length=len at *;go_enter Tryz.func31,Tryz.ntmps31;go_wp2;exact bodyPost_ret (v:=.tuple #[.string ⟨#[]⟩,.int .i64 0,.bool false]) (by simp[results,Tryz.results31,go_sem]) rfl ⟨rfl,rfl⟩
 ·have HO:bhO l n=false:=by unfold bhO;rw[List.drop_eq_nil_of_le (by omega)];rfl
  rw[(bh_no HO).1,(bh_no HO).2,HO];obtain rfl:n=l.length:=by omega
  clear HO;generalize mk l=S at *;generalize l.length=len at *;go_enter Tryz.func31,Tryz.ntmps31;go_wp2;exact bodyPost_ret (v:=.tuple #[.string ⟨#[]⟩,.int .i64 0,.bool false]) (by simp[results,Tryz.results31,go_sem]) rfl ⟨rfl,rfl⟩
end Tre
namespace Tre
open Utf Rws Pln Flw
open Go.RowKit
set_option maxHeartbeats 4000000
variable {w:World}
def RB (w w':World) (K0 K1:Nat) (k:Int) (x:Value):Prop:=Below w.heap.size w w'/\Bx w' K0 zT 26/\Bx w' K1 #[.int .i64 k,x,.string ⟨#[]⟩,.slice none 0 0] 26
theorem RB.later {w w1 w2:World} {K0 K1:Nat} {k:Int} {x:Value} (h:RB w w1 K0 K1 k x) (b:Below w1.heap.size w1 w2):RB w w2 K0 K1 k x:=⟨h.1.trans (b.mono h.1.size),h.2.1.later b,h.2.2.later b⟩
theorem RB.kind {w w1:World} {K0 K1:Nat} {k:Int} {x:Value} (h:RB w w1 K0 K1 k x) (hk:w.heap.size<=K1) (hn:K0≠K1) (j:Int):RB w (w1.setCell ⟨K1,0,none⟩ (.int .i64 j)) K0 K1 j x:=⟨h.1.setCell (p:=⟨K1,0,none⟩) hk _,h.2.1.other hn _ _,h.2.2.set 0 _⟩
theorem RB.text {w w1:World} {K0 K1:Nat} {k:Int} {x:Value} (h:RB w w1 K0 K1 k x) (hk:w.heap.size<=K1) (hn:K0≠K1) (y:Value):RB w (w1.setCell ⟨K1,1,none⟩ y) K0 K1 k y:=⟨h.1.setCell (p:=⟨K1,1,none⟩) hk _,h.2.1.other hn _ _,h.2.2.set 1 _⟩
theorem rent_qbad (S:ByteArray) (b:UInt8) (hq:b=39\/b=34) (he1:(S.toList==[])=false) (he2:S.toList.isEmpty=false) (g0:∀ h,S[0]'h=b) (hs2:0<S.size) (t:ByteArray) (n e at_:Int) (he:(e != 0)=true) (he0:(e==0)=false)
  (HRD:Hid (∀ w0,Calls Tryz.prog 27 #[.string S] w0 fun x w'=>x=.returned (.tuple #[.string t,.int .i64 n,.agg #[.int .i64 e,.int .i64 at_]])/\Below w0.heap.size w0 w')) :
  Calls Tryz.prog 12 #[.string S] w fun x w'=>x=.returned (.tuple #[.agg #[.int .i64 (0),.string ⟨#[]⟩,.string ⟨#[]⟩,.slice none 0 0],.string (⟨#[]⟩),.int .i64 (0),.bool false])/\Below w.heap.size w w':=by
 rcases hq with rfl | rfl
 all_goals
  have N2:Hid (_/\_/\_):=two_new w zT #[.int .i64 4,.string ⟨#[]⟩,.string ⟨#[]⟩,.slice none 0 0] 26 26;go_enter Tryz.func12,Tryz.ntmps12;go_wp2_with fail;change Calls _ _ _ ((w.alloc (.cells zT 26)).alloc (.cells #[.int .i64 4,.string ⟨#[]⟩,.string ⟨#[]⟩,.slice none 0 0] 26)) _;generalize (w.alloc (.cells zT 26)).alloc (.cells #[.int .i64 4,.string ⟨#[]⟩,.string ⟨#[]⟩,.slice none 0 0] 26)=W at N2 |-;obtain⟨K1,hK1⟩:∃ K,K=w.heap.size+1:=⟨_,rfl⟩;obtain⟨K0,hK0⟩:∃ K,K=w.heap.size:=⟨_,rfl⟩
  have HB:Hid (RB w W K0 K1 4 (.string ⟨#[]⟩)):=by
   rw[hK0,hK1];exact N2.out
  rw[<-hK1,<-hK0];have hw0:w.heap.size<=K0:=Nat.le_of_eq hK0.symm;have hw1:w.heap.size<=K1:=by omega
  have h01:K0≠K1:=by omega
  have h10:K1≠K0:=by omega
  clear N2 hK0 hK1;refine(HRD.out W).mono ?_;rintro e w3 ⟨rfl,H3⟩;obtain⟨w4,hw4⟩:∃ X,w3.alloc (.cells #[.int .i64 e,.int .i64 at_] 34)=X:=⟨_,rfl⟩
  have H4:Hid (RB w w4 K0 K1 4 (.string ⟨#[]⟩)):=by
   rw[<-hw4];exact(HB.out.later H3).later (below_alloc w3 _)
  have f9:=(Bx.new w3 #[.int .i64 e,.int .i64 at_] 34).c2;rw[hw4]at f9;obtain⟨f0,f1⟩:=f9;clear HB H3;obtain⟨c0,c1,c2,c3⟩:=H4.out.2.1.c4;have z0:=H4.out.2.1.fz 0;have z1:=H4.out.2.1.fz 1;have z2:=H4.out.2.1.fz 2;have z3:=H4.out.2.1.fz 3;have HF:=H4.out.2.1.fill4 rfl (.int .i64 (0)) (.string ⟨#[]⟩) (.string ⟨#[]⟩) (.slice none 0 0);have HBF:Hid (Below w.heap.size w (fill4 w4 K0 (.int .i64 (0)) (.string ⟨#[]⟩) (.string ⟨#[]⟩) (.slice none 0 0))):=below_fill4 H4.out.1 hw0 _ _ _ _;clear H4;go_wp2;change bodyPost _ _ _ _ _ (fill4 w4 K0 (.int .i64 (0)) (.string ⟨#[]⟩) (.string ⟨#[]⟩) (.slice none 0 0));generalize fill4 w4 K0 (.int .i64 (0)) (.string ⟨#[]⟩) (.string ⟨#[]⟩) (.slice none 0 0)=WF at HF HBF |-;have j0:=HF.cell 0;have j1:=HF.cell 1;have j2:=HF.cell 2;have j3:=HF.cell 3;simp at j0 j1 j2 j3;exact bodyPost_ret (v:=.tuple #[.agg #[.int .i64 (0),.string ⟨#[]⟩,.string ⟨#[]⟩,.slice none 0 0],.string (⟨#[]⟩),.int .i64 (0),.bool false]) (by simp[results,Tryz.results12,go_sem,j0,j1,j2,j3]) rfl ⟨rfl,HBF.out⟩
theorem rent_qno (S:ByteArray) (b:UInt8) (hq:b=39\/b=34) (he1:(S.toList==[])=false) (he2:S.toList.isEmpty=false) (g0:∀ h,S[0]'h=b) (hs2:0<S.size) (t D:ByteArray) (n g:Nat) (bR:ByteArray) (bN at_:Int) (hn:n<=S.size) (hS:S.size<=140737488351232) (hg:g<=S.size) (hext:S.extract n S.size=D)
  (HRD:Hid (∀ w0,Calls Tryz.prog 27 #[.string S] w0 fun x w'=>x=.returned (.tuple #[.string t,.int .i64 (n:Int),.agg #[.int .i64 0,.int .i64 at_]])/\Below w0.heap.size w0 w'))
  (HGA:Hid (∀ w0,Calls Tryz.prog 25 #[.string D] w0 fun x w'=>x=.returned (.int .i64 (g:Int))/\w0=w'))
  (HBH:Hid (∀ w0,Calls Tryz.prog 31 #[.string S,.int .i64 ((n:Int)+(g:Int))] w0 fun x w'=>x=.returned (.tuple #[.string bR,.int .i64 bN,.bool false])/\w0=w')) :
  Calls Tryz.prog 12 #[.string S] w fun x w'=>x=.returned (.tuple #[.agg #[.int .i64 (0),.string ⟨#[]⟩,.string ⟨#[]⟩,.slice none 0 0],.string (⟨#[]⟩),.int .i64 (0),.bool false])/\Below w.heap.size w w':=by
 rcases hq with rfl | rfl
 all_goals
  have N2:Hid (_/\_/\_):=two_new w zT #[.int .i64 4,.string ⟨#[]⟩,.string ⟨#[]⟩,.slice none 0 0] 26 26;go_enter Tryz.func12,Tryz.ntmps12;go_wp2_with fail;change Calls _ _ _ ((w.alloc (.cells zT 26)).alloc (.cells #[.int .i64 4,.string ⟨#[]⟩,.string ⟨#[]⟩,.slice none 0 0] 26)) _;generalize (w.alloc (.cells zT 26)).alloc (.cells #[.int .i64 4,.string ⟨#[]⟩,.string ⟨#[]⟩,.slice none 0 0] 26)=W at N2 |-;obtain⟨K1,hK1⟩:∃ K,K=w.heap.size+1:=⟨_,rfl⟩;obtain⟨K0,hK0⟩:∃ K,K=w.heap.size:=⟨_,rfl⟩
  have HB:Hid (RB w W K0 K1 4 (.string ⟨#[]⟩)):=by
   rw[hK0,hK1];exact N2.out
  rw[<-hK1,<-hK0];have hw0:w.heap.size<=K0:=Nat.le_of_eq hK0.symm;have hw1:w.heap.size<=K1:=by omega
  have h01:K0≠K1:=by omega
  have h10:K1≠K0:=by omega
  clear N2 hK0 hK1;refine(HRD.out W).mono ?_;rintro e w3 ⟨rfl,H3⟩;obtain⟨w4,hw4⟩:∃ X,w3.alloc (.cells #[.int .i64 0,.int .i64 at_] 34)=X:=⟨_,rfl⟩
  have H4:Hid (RB w w4 K0 K1 4 (.string ⟨#[]⟩)):=by
   rw[<-hw4];exact(HB.out.later H3).later (below_alloc w3 _)
  have f9:=(Bx.new w3 #[.int .i64 0,.int .i64 at_] 34).c2;rw[hw4]at f9;obtain⟨f0,f1⟩:=f9;clear HB H3;go_wp2_with fail;refine(HGA.out _).mono ?_;rintro e w' ⟨rfl,rfl⟩;obtain⟨d0,d1,d2,d3⟩:=H4.out.2.2.c4;have y0:=H4.out.2.2.fz 0;have y1:=H4.out.2.2.fz 1;have H5:Hid (RB w (w4.setCell ⟨K1,1,none⟩ (.string t)) K0 K1 4 (.string t)):=H4.out.text hw1 h01 _;go_wp2_with fail;refine(HBH.out _).mono ?_;rintro e w' ⟨rfl,rfl⟩;generalize w4.setCell ⟨K1,1,none⟩ (.string t)=w5 at H5 |-;clear H4 d0 d1 d2 d3 y0 y1;obtain⟨c0,c1,c2,c3⟩:=H5.out.2.1.c4;have z0:=H5.out.2.1.fz 0;have z1:=H5.out.2.1.fz 1;have z2:=H5.out.2.1.fz 2;have z3:=H5.out.2.1.fz 3;have HF:=H5.out.2.1.fill4 rfl (.int .i64 (0)) (.string ⟨#[]⟩) (.string ⟨#[]⟩) (.slice none 0 0);have HBF:Hid (Below w.heap.size w (fill4 w5 K0 (.int .i64 (0)) (.string ⟨#[]⟩) (.string ⟨#[]⟩) (.slice none 0 0))):=below_fill4 H5.out.1 hw0 _ _ _ _;clear H5;go_wp2;change bodyPost _ _ _ _ _ (fill4 w5 K0 (.int .i64 (0)) (.string ⟨#[]⟩) (.string ⟨#[]⟩) (.slice none 0 0));generalize fill4 w5 K0 (.int .i64 (0)) (.string ⟨#[]⟩) (.string ⟨#[]⟩) (.slice none 0 0)=WF at HF HBF |-;have j0:=HF.cell 0;have j1:=HF.cell 1;have j2:=HF.cell 2;have j3:=HF.cell 3;simp at j0 j1 j2 j3;exact bodyPost_ret (v:=.tuple #[.agg #[.int .i64 (0),.string ⟨#[]⟩,.string ⟨#[]⟩,.slice none 0 0],.string (⟨#[]⟩),.int .i64 (0),.bool false]) (by simp[results,Tryz.results12,go_sem,j0,j1,j2,j3]) rfl ⟨rfl,HBF.out⟩
theorem rent_qyes (S:ByteArray) (b:UInt8) (hq:b=39\/b=34) (he1:(S.toList==[])=false) (he2:S.toList.isEmpty=false) (g0:∀ h,S[0]'h=b) (hs2:0<S.size) (t D:ByteArray) (n g:Nat) (bR:ByteArray) (bN at_:Int) (hn:n<=S.size) (hS:S.size<=140737488351232) (hg:g<=S.size) (hext:S.extract n S.size=D)
  (HRD:Hid (∀ w0,Calls Tryz.prog 27 #[.string S] w0 fun x w'=>x=.returned (.tuple #[.string t,.int .i64 (n:Int),.agg #[.int .i64 0,.int .i64 at_]])/\Below w0.heap.size w0 w'))
  (HGA:Hid (∀ w0,Calls Tryz.prog 25 #[.string D] w0 fun x w'=>x=.returned (.int .i64 (g:Int))/\w0=w'))
  (HBH:Hid (∀ w0,Calls Tryz.prog 31 #[.string S,.int .i64 ((n:Int)+(g:Int))] w0 fun x w'=>x=.returned (.tuple #[.string bR,.int .i64 bN,.bool true])/\w0=w')) :
  Calls Tryz.prog 12 #[.string S] w fun x w'=>x=.returned (.tuple #[.agg #[.int .i64 (4),.string t,.string ⟨#[]⟩,.slice none 0 0],.string (bR),.int .i64 (bN),.bool true])/\Below w.heap.size w w':=by
 rcases hq with rfl | rfl
 all_goals
  have N2:Hid (_/\_/\_):=two_new w zT #[.int .i64 4,.string ⟨#[]⟩,.string ⟨#[]⟩,.slice none 0 0] 26 26;go_enter Tryz.func12,Tryz.ntmps12;go_wp2_with fail;change Calls _ _ _ ((w.alloc (.cells zT 26)).alloc (.cells #[.int .i64 4,.string ⟨#[]⟩,.string ⟨#[]⟩,.slice none 0 0] 26)) _;generalize (w.alloc (.cells zT 26)).alloc (.cells #[.int .i64 4,.string ⟨#[]⟩,.string ⟨#[]⟩,.slice none 0 0] 26)=W at N2 |-;obtain⟨K1,hK1⟩:∃ K,K=w.heap.size+1:=⟨_,rfl⟩;obtain⟨K0,hK0⟩:∃ K,K=w.heap.size:=⟨_,rfl⟩
  have HB:Hid (RB w W K0 K1 4 (.string ⟨#[]⟩)):=by
   rw[hK0,hK1];exact N2.out
  rw[<-hK1,<-hK0];have hw0:w.heap.size<=K0:=Nat.le_of_eq hK0.symm;have hw1:w.heap.size<=K1:=by omega
  have h01:K0≠K1:=by omega
  have h10:K1≠K0:=by omega
  clear N2 hK0 hK1;refine(HRD.out W).mono ?_;rintro e w3 ⟨rfl,H3⟩;obtain⟨w4,hw4⟩:∃ X,w3.alloc (.cells #[.int .i64 0,.int .i64 at_] 34)=X:=⟨_,rfl⟩
  have H4:Hid (RB w w4 K0 K1 4 (.string ⟨#[]⟩)):=by
   rw[<-hw4];exact(HB.out.later H3).later (below_alloc w3 _)
  have f9:=(Bx.new w3 #[.int .i64 0,.int .i64 at_] 34).c2;rw[hw4]at f9;obtain⟨f0,f1⟩:=f9;clear HB H3;go_wp2_with fail;refine(HGA.out _).mono ?_;rintro e w' ⟨rfl,rfl⟩;obtain⟨d0,d1,d2,d3⟩:=H4.out.2.2.c4;have y0:=H4.out.2.2.fz 0;have y1:=H4.out.2.2.fz 1;have H5:Hid (RB w (w4.setCell ⟨K1,1,none⟩ (.string t)) K0 K1 4 (.string t)):=H4.out.text hw1 h01 _;go_wp2_with fail;refine(HBH.out _).mono ?_;rintro e w' ⟨rfl,rfl⟩;generalize w4.setCell ⟨K1,1,none⟩ (.string t)=w5 at H5 |-;clear H4 d0 d1 d2 d3 y0 y1;obtain⟨d0,d1,d2,d3⟩:=H5.out.2.2.c4;have y0:=H5.out.2.2.fz 0;have y1:=H5.out.2.2.fz 1;obtain⟨c0,c1,c2,c3⟩:=H5.out.2.1.c4;have z0:=H5.out.2.1.fz 0;have z1:=H5.out.2.1.fz 1;have z2:=H5.out.2.1.fz 2;have z3:=H5.out.2.1.fz 3;have HF:=H5.out.2.1.fill4 rfl (.int .i64 (4)) (.string t) (.string ⟨#[]⟩) (.slice none 0 0);have HBF:Hid (Below w.heap.size w (fill4 w5 K0 (.int .i64 (4)) (.string t) (.string ⟨#[]⟩) (.slice none 0 0))):=below_fill4 H5.out.1 hw0 _ _ _ _;clear H5;go_wp2;change bodyPost _ _ _ _ _ (fill4 w5 K0 (.int .i64 (4)) (.string t) (.string ⟨#[]⟩) (.slice none 0 0));generalize fill4 w5 K0 (.int .i64 (4)) (.string t) (.string ⟨#[]⟩) (.slice none 0 0)=WF at HF HBF |-;have j0:=HF.cell 0;have j1:=HF.cell 1;have j2:=HF.cell 2;have j3:=HF.cell 3;simp at j0 j1 j2 j3;exact bodyPost_ret (v:=.tuple #[.agg #[.int .i64 (4),.string t,.string ⟨#[]⟩,.slice none 0 0],.string (bR),.int .i64 (bN),.bool true]) (by simp[results,Tryz.results12,go_sem,j0,j1,j2,j3]) rfl ⟨rfl,HBF.out⟩
end Tre
namespace Tre
open Utf Rws Pln Flw
open Go.RowKit
set_option maxHeartbeats 4000000
variable {w:World}
theorem rent_pbad (S:ByteArray) (hq:((S.toList==[])=true/\S.toList.isEmpty=true)\/(∃ b:UInt8,(S.toList==[])=false/\S.toList.isEmpty=false/\(∀ h,S[0]'h=b)/\0<S.size/\((b.toNat:Int)==39)=false/\((b.toNat:Int)==34)=false)) (t:ByteArray) (n:Int)
  (HCU:Hid (∀ w0,Calls Tryz.prog 28 #[.string S,.bool false] w0 fun x w'=>x=.returned (.tuple #[.string t,.int .i64 n])/\w0=w'))
  (HIS:Hid (∀ w0,Calls Tryz.prog 29 #[.string t,.bool false] w0 fun x w'=>x=.returned (.bool false)/\Below w0.heap.size w0 w')) :
  Calls Tryz.prog 12 #[.string S] w fun x w'=>x=.returned (.tuple #[.agg #[.int .i64 (0),.string ⟨#[]⟩,.string ⟨#[]⟩,.slice none 0 0],.string (⟨#[]⟩),.int .i64 (0),.bool false])/\Below w.heap.size w w':=by
 rcases hq with ⟨he1,he2⟩ | ⟨b,he1,he2,g0,hs2,q39,q34⟩
 all_goals
  have N2:Hid (_/\_/\_):=two_new w zT #[.int .i64 4,.string ⟨#[]⟩,.string ⟨#[]⟩,.slice none 0 0] 26 26;go_enter Tryz.func12,Tryz.ntmps12;go_wp2_with fail;change Calls _ _ _ ((w.alloc (.cells zT 26)).alloc (.cells #[.int .i64 4,.string ⟨#[]⟩,.string ⟨#[]⟩,.slice none 0 0] 26)) _;generalize (w.alloc (.cells zT 26)).alloc (.cells #[.int .i64 4,.string ⟨#[]⟩,.string ⟨#[]⟩,.slice none 0 0] 26)=W at N2 |-;obtain⟨K1,hK1⟩:∃ K,K=w.heap.size+1:=⟨_,rfl⟩;obtain⟨K0,hK0⟩:∃ K,K=w.heap.size:=⟨_,rfl⟩
  have HB:Hid (RB w W K0 K1 4 (.string ⟨#[]⟩)):=by
   rw[hK0,hK1];exact N2.out
  rw[<-hK1,<-hK0];have hw0:w.heap.size<=K0:=Nat.le_of_eq hK0.symm;have hw1:w.heap.size<=K1:=by omega
  have h01:K0≠K1:=by omega
  have h10:K1≠K0:=by omega
  clear N2 hK0 hK1;refine(HCU.out W).mono ?_;rintro e w' ⟨rfl,rfl⟩;go_wp2_with fail;refine(HIS.out W).mono ?_;rintro e w3 ⟨rfl,H3⟩;have HB3:Hid (RB w w3 K0 K1 4 (.string ⟨#[]⟩)):=HB.out.later H3;clear HB H3;obtain⟨c0,c1,c2,c3⟩:=HB3.out.2.1.c4;have z0:=HB3.out.2.1.fz 0;have z1:=HB3.out.2.1.fz 1;have z2:=HB3.out.2.1.fz 2;have z3:=HB3.out.2.1.fz 3;have HF:=HB3.out.2.1.fill4 rfl (.int .i64 (0)) (.string ⟨#[]⟩) (.string ⟨#[]⟩) (.slice none 0 0);have HBF:Hid (Below w.heap.size w (fill4 w3 K0 (.int .i64 (0)) (.string ⟨#[]⟩) (.string ⟨#[]⟩) (.slice none 0 0))):=below_fill4 HB3.out.1 hw0 _ _ _ _;clear HB3;go_wp2;change bodyPost _ _ _ _ _ (fill4 w3 K0 (.int .i64 (0)) (.string ⟨#[]⟩) (.string ⟨#[]⟩) (.slice none 0 0));generalize fill4 w3 K0 (.int .i64 (0)) (.string ⟨#[]⟩) (.string ⟨#[]⟩) (.slice none 0 0)=WF at HF HBF |-;have j0:=HF.cell 0;have j1:=HF.cell 1;have j2:=HF.cell 2;have j3:=HF.cell 3;simp at j0 j1 j2 j3;exact bodyPost_ret (v:=.tuple #[.agg #[.int .i64 (0),.string ⟨#[]⟩,.string ⟨#[]⟩,.slice none 0 0],.string (⟨#[]⟩),.int .i64 (0),.bool false]) (by simp[results,Tryz.results12,go_sem,j0,j1,j2,j3]) rfl ⟨rfl,HBF.out⟩
theorem rent_pno1 (S:ByteArray) (hq:((S.toList==[])=true/\S.toList.isEmpty=true)\/(∃ b:UInt8,(S.toList==[])=false/\S.toList.isEmpty=false/\(∀ h,S[0]'h=b)/\0<S.size/\((b.toNat:Int)==39)=false/\((b.toNat:Int)==34)=false)) (t:ByteArray) (n:Int) (bR:ByteArray) (bN:Int)
  (HCU:Hid (∀ w0,Calls Tryz.prog 28 #[.string S,.bool false] w0 fun x w'=>x=.returned (.tuple #[.string t,.int .i64 n])/\w0=w'))
  (HIS:Hid (∀ w0,Calls Tryz.prog 29 #[.string t,.bool false] w0 fun x w'=>x=.returned (.bool true)/\Below w0.heap.size w0 w'))
  (HRE:Hid (∀ w0,Calls Tryz.prog 30 #[.string t] w0 fun x w'=>x=.returned (.int .i64 (1))/\Below w0.heap.size w0 w'))
  (HBH:Hid (∀ w0,Calls Tryz.prog 31 #[.string S,.int .i64 (n)] w0 fun x w'=>x=.returned (.tuple #[.string bR,.int .i64 bN,.bool false])/\w0=w')) :
  Calls Tryz.prog 12 #[.string S] w fun x w'=>x=.returned (.tuple #[.agg #[.int .i64 (0),.string ⟨#[]⟩,.string ⟨#[]⟩,.slice none 0 0],.string (⟨#[]⟩),.int .i64 (0),.bool false])/\Below w.heap.size w w':=by
 rcases hq with ⟨he1,he2⟩ | ⟨b,he1,he2,g0,hs2,q39,q34⟩
 all_goals
  have N2:Hid (_/\_/\_):=two_new w zT #[.int .i64 4,.string ⟨#[]⟩,.string ⟨#[]⟩,.slice none 0 0] 26 26;go_enter Tryz.func12,Tryz.ntmps12;go_wp2_with fail;change Calls _ _ _ ((w.alloc (.cells zT 26)).alloc (.cells #[.int .i64 4,.string ⟨#[]⟩,.string ⟨#[]⟩,.slice none 0 0] 26)) _;generalize (w.alloc (.cells zT 26)).alloc (.cells #[.int .i64 4,.string ⟨#[]⟩,.string ⟨#[]⟩,.slice none 0 0] 26)=W at N2 |-;obtain⟨K1,hK1⟩:∃ K,K=w.heap.size+1:=⟨_,rfl⟩;obtain⟨K0,hK0⟩:∃ K,K=w.heap.size:=⟨_,rfl⟩
  have HB:Hid (RB w W K0 K1 4 (.string ⟨#[]⟩)):=by
   rw[hK0,hK1];exact N2.out
  rw[<-hK1,<-hK0];have hw0:w.heap.size<=K0:=Nat.le_of_eq hK0.symm;have hw1:w.heap.size<=K1:=by omega
  have h01:K0≠K1:=by omega
  have h10:K1≠K0:=by omega
  clear N2 hK0 hK1;refine(HCU.out W).mono ?_;rintro e w' ⟨rfl,rfl⟩;go_wp2_with fail;refine(HIS.out W).mono ?_;rintro e w3 ⟨rfl,H3⟩;have HB3:Hid (RB w w3 K0 K1 4 (.string ⟨#[]⟩)):=HB.out.later H3;clear HB H3;go_wp2_with fail;refine(HRE.out w3).mono ?_;rintro e w4 ⟨rfl,H4⟩;have HB4:Hid (RB w w4 K0 K1 4 (.string ⟨#[]⟩)):=HB3.out.later H4;clear HB3 H4;obtain⟨d0,d1,d2,d3⟩:=HB4.out.2.2.c4;have y0:=HB4.out.2.2.fz 0;have y1:=HB4.out.2.2.fz 1;obtain⟨w5,hw5⟩:∃ X,w4.setCell ⟨K1,0,none⟩ (.int .i64 (1))=X:=⟨_,rfl⟩
  have HB5:Hid (RB w w5 K0 K1 (1) (.string ⟨#[]⟩)):=by
   rw[<-hw5];exact HB4.out.kind hw1 h01 _
  obtain⟨e0,e1,-,-⟩:=HB5.out.2.2.c4;have x1:=HB5.out.2.2.fz 1;clear HB4;go_wp2_with fail;refine(HBH.out _).mono ?_;rintro e w' ⟨rfl,rfl⟩;obtain⟨c0,c1,c2,c3⟩:=HB5.out.2.1.c4;have z0:=HB5.out.2.1.fz 0;have z1:=HB5.out.2.1.fz 1;have z2:=HB5.out.2.1.fz 2;have z3:=HB5.out.2.1.fz 3;have HF:=HB5.out.2.1.fill4 rfl (.int .i64 (0)) (.string ⟨#[]⟩) (.string ⟨#[]⟩) (.slice none 0 0);have HBF:Hid (Below w.heap.size w (fill4 w5 K0 (.int .i64 (0)) (.string ⟨#[]⟩) (.string ⟨#[]⟩) (.slice none 0 0))):=below_fill4 HB5.out.1 hw0 _ _ _ _;clear HB5;go_wp2;change bodyPost _ _ _ _ _ (fill4 w5 K0 (.int .i64 (0)) (.string ⟨#[]⟩) (.string ⟨#[]⟩) (.slice none 0 0));generalize fill4 w5 K0 (.int .i64 (0)) (.string ⟨#[]⟩) (.string ⟨#[]⟩) (.slice none 0 0)=WF at HF HBF |-;have j0:=HF.cell 0;have j1:=HF.cell 1;have j2:=HF.cell 2;have j3:=HF.cell 3;simp at j0 j1 j2 j3;exact bodyPost_ret (v:=.tuple #[.agg #[.int .i64 (0),.string ⟨#[]⟩,.string ⟨#[]⟩,.slice none 0 0],.string (⟨#[]⟩),.int .i64 (0),.bool false]) (by simp[results,Tryz.results12,go_sem,j0,j1,j2,j3]) rfl ⟨rfl,HBF.out⟩
theorem rent_pyes1 (S:ByteArray) (hq:((S.toList==[])=true/\S.toList.isEmpty=true)\/(∃ b:UInt8,(S.toList==[])=false/\S.toList.isEmpty=false/\(∀ h,S[0]'h=b)/\0<S.size/\((b.toNat:Int)==39)=false/\((b.toNat:Int)==34)=false)) (t:ByteArray) (n:Int) (bR:ByteArray) (bN:Int)
  (HCU:Hid (∀ w0,Calls Tryz.prog 28 #[.string S,.bool false] w0 fun x w'=>x=.returned (.tuple #[.string t,.int .i64 n])/\w0=w'))
  (HIS:Hid (∀ w0,Calls Tryz.prog 29 #[.string t,.bool false] w0 fun x w'=>x=.returned (.bool true)/\Below w0.heap.size w0 w'))
  (HRE:Hid (∀ w0,Calls Tryz.prog 30 #[.string t] w0 fun x w'=>x=.returned (.int .i64 (1))/\Below w0.heap.size w0 w'))
  (HBH:Hid (∀ w0,Calls Tryz.prog 31 #[.string S,.int .i64 (n)] w0 fun x w'=>x=.returned (.tuple #[.string bR,.int .i64 bN,.bool true])/\w0=w')) :
  Calls Tryz.prog 12 #[.string S] w fun x w'=>x=.returned (.tuple #[.agg #[.int .i64 (1),.string ⟨#[]⟩,.string ⟨#[]⟩,.slice none 0 0],.string (bR),.int .i64 (bN),.bool true])/\Below w.heap.size w w':=by
 rcases hq with ⟨he1,he2⟩ | ⟨b,he1,he2,g0,hs2,q39,q34⟩
 all_goals
  have N2:Hid (_/\_/\_):=two_new w zT #[.int .i64 4,.string ⟨#[]⟩,.string ⟨#[]⟩,.slice none 0 0] 26 26;go_enter Tryz.func12,Tryz.ntmps12;go_wp2_with fail;change Calls _ _ _ ((w.alloc (.cells zT 26)).alloc (.cells #[.int .i64 4,.string ⟨#[]⟩,.string ⟨#[]⟩,.slice none 0 0] 26)) _;generalize (w.alloc (.cells zT 26)).alloc (.cells #[.int .i64 4,.string ⟨#[]⟩,.string ⟨#[]⟩,.slice none 0 0] 26)=W at N2 |-;obtain⟨K1,hK1⟩:∃ K,K=w.heap.size+1:=⟨_,rfl⟩;obtain⟨K0,hK0⟩:∃ K,K=w.heap.size:=⟨_,rfl⟩
  have HB:Hid (RB w W K0 K1 4 (.string ⟨#[]⟩)):=by
   rw[hK0,hK1];exact N2.out
  rw[<-hK1,<-hK0];have hw0:w.heap.size<=K0:=Nat.le_of_eq hK0.symm;have hw1:w.heap.size<=K1:=by omega
  have h01:K0≠K1:=by omega
  have h10:K1≠K0:=by omega
  clear N2 hK0 hK1;refine(HCU.out W).mono ?_;rintro e w' ⟨rfl,rfl⟩;go_wp2_with fail;refine(HIS.out W).mono ?_;rintro e w3 ⟨rfl,H3⟩;have HB3:Hid (RB w w3 K0 K1 4 (.string ⟨#[]⟩)):=HB.out.later H3;clear HB H3;go_wp2_with fail;refine(HRE.out w3).mono ?_;rintro e w4 ⟨rfl,H4⟩;have HB4:Hid (RB w w4 K0 K1 4 (.string ⟨#[]⟩)):=HB3.out.later H4;clear HB3 H4;obtain⟨d0,d1,d2,d3⟩:=HB4.out.2.2.c4;have y0:=HB4.out.2.2.fz 0;have y1:=HB4.out.2.2.fz 1;obtain⟨w5,hw5⟩:∃ X,w4.setCell ⟨K1,0,none⟩ (.int .i64 (1))=X:=⟨_,rfl⟩
  have HB5:Hid (RB w w5 K0 K1 (1) (.string ⟨#[]⟩)):=by
   rw[<-hw5];exact HB4.out.kind hw1 h01 _
  obtain⟨e0,e1,-,-⟩:=HB5.out.2.2.c4;have x1:=HB5.out.2.2.fz 1;clear HB4;go_wp2_with fail;refine(HBH.out _).mono ?_;rintro e w' ⟨rfl,rfl⟩;clear d0 d1 d2 d3 y0 y1;obtain⟨d0,d1,d2,d3⟩:=HB5.out.2.2.c4;have y0:=HB5.out.2.2.fz 0;have y1:=HB5.out.2.2.fz 1;obtain⟨c0,c1,c2,c3⟩:=HB5.out.2.1.c4;have z0:=HB5.out.2.1.fz 0;have z1:=HB5.out.2.1.fz 1;have z2:=HB5.out.2.1.fz 2;have z3:=HB5.out.2.1.fz 3;have HF:=HB5.out.2.1.fill4 rfl (.int .i64 (1)) (.string ⟨#[]⟩) (.string ⟨#[]⟩) (.slice none 0 0);have HBF:Hid (Below w.heap.size w (fill4 w5 K0 (.int .i64 (1)) (.string ⟨#[]⟩) (.string ⟨#[]⟩) (.slice none 0 0))):=below_fill4 HB5.out.1 hw0 _ _ _ _;clear HB5;go_wp2;change bodyPost _ _ _ _ _ (fill4 w5 K0 (.int .i64 (1)) (.string ⟨#[]⟩) (.string ⟨#[]⟩) (.slice none 0 0));generalize fill4 w5 K0 (.int .i64 (1)) (.string ⟨#[]⟩) (.string ⟨#[]⟩) (.slice none 0 0)=WF at HF HBF |-;have j0:=HF.cell 0;have j1:=HF.cell 1;have j2:=HF.cell 2;have j3:=HF.cell 3;simp at j0 j1 j2 j3;exact bodyPost_ret (v:=.tuple #[.agg #[.int .i64 (1),.string ⟨#[]⟩,.string ⟨#[]⟩,.slice none 0 0],.string (bR),.int .i64 (bN),.bool true]) (by simp[results,Tryz.results12,go_sem,j0,j1,j2,j3]) rfl ⟨rfl,HBF.out⟩
theorem rent_pno (S:ByteArray) (hq:((S.toList==[])=true/\S.toList.isEmpty=true)\/(∃ b:UInt8,(S.toList==[])=false/\S.toList.isEmpty=false/\(∀ h,S[0]'h=b)/\0<S.size/\((b.toNat:Int)==39)=false/\((b.toNat:Int)==34)=false)) (t:ByteArray) (n:Int) (kd:Int) (hk1:(kd != 1)=true) (hk2:(kd==1)=false) (bR:ByteArray) (bN:Int)
  (HCU:Hid (∀ w0,Calls Tryz.prog 28 #[.string S,.bool false] w0 fun x w'=>x=.returned (.tuple #[.string t,.int .i64 n])/\w0=w'))
  (HIS:Hid (∀ w0,Calls Tryz.prog 29 #[.string t,.bool false] w0 fun x w'=>x=.returned (.bool true)/\Below w0.heap.size w0 w'))
  (HRE:Hid (∀ w0,Calls Tryz.prog 30 #[.string t] w0 fun x w'=>x=.returned (.int .i64 (kd))/\Below w0.heap.size w0 w'))
  (HBH:Hid (∀ w0,Calls Tryz.prog 31 #[.string S,.int .i64 (n)] w0 fun x w'=>x=.returned (.tuple #[.string bR,.int .i64 bN,.bool false])/\w0=w')) :
  Calls Tryz.prog 12 #[.string S] w fun x w'=>x=.returned (.tuple #[.agg #[.int .i64 (0),.string ⟨#[]⟩,.string ⟨#[]⟩,.slice none 0 0],.string (⟨#[]⟩),.int .i64 (0),.bool false])/\Below w.heap.size w w':=by
 rcases hq with ⟨he1,he2⟩ | ⟨b,he1,he2,g0,hs2,q39,q34⟩
 all_goals
  have N2:Hid (_/\_/\_):=two_new w zT #[.int .i64 4,.string ⟨#[]⟩,.string ⟨#[]⟩,.slice none 0 0] 26 26;go_enter Tryz.func12,Tryz.ntmps12;go_wp2_with fail;change Calls _ _ _ ((w.alloc (.cells zT 26)).alloc (.cells #[.int .i64 4,.string ⟨#[]⟩,.string ⟨#[]⟩,.slice none 0 0] 26)) _;generalize (w.alloc (.cells zT 26)).alloc (.cells #[.int .i64 4,.string ⟨#[]⟩,.string ⟨#[]⟩,.slice none 0 0] 26)=W at N2 |-;obtain⟨K1,hK1⟩:∃ K,K=w.heap.size+1:=⟨_,rfl⟩;obtain⟨K0,hK0⟩:∃ K,K=w.heap.size:=⟨_,rfl⟩
  have HB:Hid (RB w W K0 K1 4 (.string ⟨#[]⟩)):=by
   rw[hK0,hK1];exact N2.out
  rw[<-hK1,<-hK0];have hw0:w.heap.size<=K0:=Nat.le_of_eq hK0.symm;have hw1:w.heap.size<=K1:=by omega
  have h01:K0≠K1:=by omega
  have h10:K1≠K0:=by omega
  clear N2 hK0 hK1;refine(HCU.out W).mono ?_;rintro e w' ⟨rfl,rfl⟩;go_wp2_with fail;refine(HIS.out W).mono ?_;rintro e w3 ⟨rfl,H3⟩;have HB3:Hid (RB w w3 K0 K1 4 (.string ⟨#[]⟩)):=HB.out.later H3;clear HB H3;go_wp2_with fail;refine(HRE.out w3).mono ?_;rintro e w4 ⟨rfl,H4⟩;have HB4:Hid (RB w w4 K0 K1 4 (.string ⟨#[]⟩)):=HB3.out.later H4;clear HB3 H4;obtain⟨d0,d1,d2,d3⟩:=HB4.out.2.2.c4;have y0:=HB4.out.2.2.fz 0;have y1:=HB4.out.2.2.fz 1;obtain⟨w5,hw5⟩:∃ X,w4.setCell ⟨K1,0,none⟩ (.int .i64 (kd))=X:=⟨_,rfl⟩
  have HB5:Hid (RB w w5 K0 K1 (kd) (.string ⟨#[]⟩)):=by
   rw[<-hw5];exact HB4.out.kind hw1 h01 _
  obtain⟨e0,e1,-,-⟩:=HB5.out.2.2.c4;have x1:=HB5.out.2.2.fz 1;clear HB4;obtain⟨w6,hw6⟩:∃ X,w5.setCell ⟨K1,1,none⟩ (.string t)=X:=⟨_,rfl⟩
  have HB6:Hid (RB w w6 K0 K1 (kd) (.string t)):=by
   rw[<-hw6];exact HB5.out.text hw1 h01 _
  clear HB5;go_wp2_with fail;refine(HBH.out _).mono ?_;rintro e w' ⟨rfl,rfl⟩;obtain⟨c0,c1,c2,c3⟩:=HB6.out.2.1.c4;have z0:=HB6.out.2.1.fz 0;have z1:=HB6.out.2.1.fz 1;have z2:=HB6.out.2.1.fz 2;have z3:=HB6.out.2.1.fz 3;have HF:=HB6.out.2.1.fill4 rfl (.int .i64 (0)) (.string ⟨#[]⟩) (.string ⟨#[]⟩) (.slice none 0 0);have HBF:Hid (Below w.heap.size w (fill4 w6 K0 (.int .i64 (0)) (.string ⟨#[]⟩) (.string ⟨#[]⟩) (.slice none 0 0))):=below_fill4 HB6.out.1 hw0 _ _ _ _;clear HB6;go_wp2;change bodyPost _ _ _ _ _ (fill4 w6 K0 (.int .i64 (0)) (.string ⟨#[]⟩) (.string ⟨#[]⟩) (.slice none 0 0));generalize fill4 w6 K0 (.int .i64 (0)) (.string ⟨#[]⟩) (.string ⟨#[]⟩) (.slice none 0 0)=WF at HF HBF |-;have j0:=HF.cell 0;have j1:=HF.cell 1;have j2:=HF.cell 2;have j3:=HF.cell 3;simp at j0 j1 j2 j3;exact bodyPost_ret (v:=.tuple #[.agg #[.int .i64 (0),.string ⟨#[]⟩,.string ⟨#[]⟩,.slice none 0 0],.string (⟨#[]⟩),.int .i64 (0),.bool false]) (by simp[results,Tryz.results12,go_sem,j0,j1,j2,j3]) rfl ⟨rfl,HBF.out⟩
theorem rent_pyes (S:ByteArray) (hq:((S.toList==[])=true/\S.toList.isEmpty=true)\/(∃ b:UInt8,(S.toList==[])=false/\S.toList.isEmpty=false/\(∀ h,S[0]'h=b)/\0<S.size/\((b.toNat:Int)==39)=false/\((b.toNat:Int)==34)=false)) (t:ByteArray) (n:Int) (kd:Int) (hk1:(kd != 1)=true) (hk2:(kd==1)=false) (bR:ByteArray) (bN:Int)
  (HCU:Hid (∀ w0,Calls Tryz.prog 28 #[.string S,.bool false] w0 fun x w'=>x=.returned (.tuple #[.string t,.int .i64 n])/\w0=w'))
  (HIS:Hid (∀ w0,Calls Tryz.prog 29 #[.string t,.bool false] w0 fun x w'=>x=.returned (.bool true)/\Below w0.heap.size w0 w'))
  (HRE:Hid (∀ w0,Calls Tryz.prog 30 #[.string t] w0 fun x w'=>x=.returned (.int .i64 (kd))/\Below w0.heap.size w0 w'))
  (HBH:Hid (∀ w0,Calls Tryz.prog 31 #[.string S,.int .i64 (n)] w0 fun x w'=>x=.returned (.tuple #[.string bR,.int .i64 bN,.bool true])/\w0=w')) :
  Calls Tryz.prog 12 #[.string S] w fun x w'=>x=.returned (.tuple #[.agg #[.int .i64 (kd),.string t,.string ⟨#[]⟩,.slice none 0 0],.string (bR),.int .i64 (bN),.bool true])/\Below w.heap.size w w':=by
 rcases hq with ⟨he1,he2⟩ | ⟨b,he1,he2,g0,hs2,q39,q34⟩
 all_goals
  have N2:Hid (_/\_/\_):=two_new w zT #[.int .i64 4,.string ⟨#[]⟩,.string ⟨#[]⟩,.slice none 0 0] 26 26;go_enter Tryz.func12,Tryz.ntmps12;go_wp2_with fail;change Calls _ _ _ ((w.alloc (.cells zT 26)).alloc (.cells #[.int .i64 4,.string ⟨#[]⟩,.string ⟨#[]⟩,.slice none 0 0] 26)) _;generalize (w.alloc (.cells zT 26)).alloc (.cells #[.int .i64 4,.string ⟨#[]⟩,.string ⟨#[]⟩,.slice none 0 0] 26)=W at N2 |-;obtain⟨K1,hK1⟩:∃ K,K=w.heap.size+1:=⟨_,rfl⟩;obtain⟨K0,hK0⟩:∃ K,K=w.heap.size:=⟨_,rfl⟩
  have HB:Hid (RB w W K0 K1 4 (.string ⟨#[]⟩)):=by
   rw[hK0,hK1];exact N2.out
  rw[<-hK1,<-hK0];have hw0:w.heap.size<=K0:=Nat.le_of_eq hK0.symm;have hw1:w.heap.size<=K1:=by omega
  have h01:K0≠K1:=by omega
  have h10:K1≠K0:=by omega
  clear N2 hK0 hK1;refine(HCU.out W).mono ?_;rintro e w' ⟨rfl,rfl⟩;go_wp2_with fail;refine(HIS.out W).mono ?_;rintro e w3 ⟨rfl,H3⟩;have HB3:Hid (RB w w3 K0 K1 4 (.string ⟨#[]⟩)):=HB.out.later H3;clear HB H3;go_wp2_with fail;refine(HRE.out w3).mono ?_;rintro e w4 ⟨rfl,H4⟩;have HB4:Hid (RB w w4 K0 K1 4 (.string ⟨#[]⟩)):=HB3.out.later H4;clear HB3 H4;obtain⟨d0,d1,d2,d3⟩:=HB4.out.2.2.c4;have y0:=HB4.out.2.2.fz 0;have y1:=HB4.out.2.2.fz 1;obtain⟨w5,hw5⟩:∃ X,w4.setCell ⟨K1,0,none⟩ (.int .i64 (kd))=X:=⟨_,rfl⟩
  have HB5:Hid (RB w w5 K0 K1 (kd) (.string ⟨#[]⟩)):=by
   rw[<-hw5];exact HB4.out.kind hw1 h01 _
  obtain⟨e0,e1,-,-⟩:=HB5.out.2.2.c4;have x1:=HB5.out.2.2.fz 1;clear HB4;obtain⟨w6,hw6⟩:∃ X,w5.setCell ⟨K1,1,none⟩ (.string t)=X:=⟨_,rfl⟩
  have HB6:Hid (RB w w6 K0 K1 (kd) (.string t)):=by
   rw[<-hw6];exact HB5.out.text hw1 h01 _
  clear HB5;go_wp2_with fail;refine(HBH.out _).mono ?_;rintro e w' ⟨rfl,rfl⟩;clear d0 d1 d2 d3 y0 y1;obtain⟨d0,d1,d2,d3⟩:=HB6.out.2.2.c4;have y0:=HB6.out.2.2.fz 0;have y1:=HB6.out.2.2.fz 1;obtain⟨c0,c1,c2,c3⟩:=HB6.out.2.1.c4;have z0:=HB6.out.2.1.fz 0;have z1:=HB6.out.2.1.fz 1;have z2:=HB6.out.2.1.fz 2;have z3:=HB6.out.2.1.fz 3;have HF:=HB6.out.2.1.fill4 rfl (.int .i64 (kd)) (.string t) (.string ⟨#[]⟩) (.slice none 0 0);have HBF:Hid (Below w.heap.size w (fill4 w6 K0 (.int .i64 (kd)) (.string t) (.string ⟨#[]⟩) (.slice none 0 0))):=below_fill4 HB6.out.1 hw0 _ _ _ _;clear HB6;go_wp2;change bodyPost _ _ _ _ _ (fill4 w6 K0 (.int .i64 (kd)) (.string t) (.string ⟨#[]⟩) (.slice none 0 0));generalize fill4 w6 K0 (.int .i64 (kd)) (.string t) (.string ⟨#[]⟩) (.slice none 0 0)=WF at HF HBF |-;have j0:=HF.cell 0;have j1:=HF.cell 1;have j2:=HF.cell 2;have j3:=HF.cell 3;simp at j0 j1 j2 j3;exact bodyPost_ret (v:=.tuple #[.agg #[.int .i64 (kd),.string t,.string ⟨#[]⟩,.slice none 0 0],.string (bR),.int .i64 (bN),.bool true]) (by simp[results,Tryz.results12,go_sem,j0,j1,j2,j3]) rfl ⟨rfl,HBF.out⟩
end Tre
namespace Tre
open Utf Rws Pln Flw
open Go.RowKit
set_option maxHeartbeats 2000000
variable {w:World}
theorem quo_noP (b:UInt8) (r:Ln) (hq:b=39\/b=34):isP (cutT (b::r) false) false=false:=by
 obtain⟨n,hn,e⟩:=cutT_take (b::r) false;rw[e]
 have hb:bg ((b::r).take n)=false:=by
  cases n with
  | zero=>rfl
  | succ n =>
   rw[List.take_succ_cons]
   have hm:mrk ((b::r.take n).getD 0 0)=true:=by
    show mrk b=true;rcases hq with rfl | rfl<;>decide
   unfold bg;rw[hm];simp
 unfold isP;rw[hb,Bool.and_false,Bool.false_and,Bool.false_and]
theorem bh_en (l:Ln) (m:Nat) (hb:ckB l=true) (hd':l.drop m=ckR l):bhO l m=isEn l/\bhR l m=enR l/\bhN l m=enN l:=by
 have h2:l.drop (m+1)=(ckR l).drop 1:=by rw[<-hd',List.drop_drop]
 have h3:bhO l m=isEn l:=by unfold bhO isEn;rw[hb,hd',h2,Bool.true_and]
 refine⟨h3,?_,?_⟩
 ·unfold bhR enR;rw[h3,h2]
 ·unfold bhN enN;rw[h3,h2]
theorem rentry_any (l:Ln) (hl:l.length<=140737488351232):Calls Tryz.prog 12 #[.string (mk l)] w fun e w'=>e=.returned (.tuple #[lfV (enT l).kind (enT l).text [],.string (mk (enR l)),.int .i64 (enN l:Int),.bool (isEn l)])/\Below w.heap.size w w':=by
 have hsz:=mk_size l;have HN:isEn l=false->(enT l).kind=0/\(enT l).text=[]/\enR l=[]/\enN l=0:=fun h=>by unfold enT enR enN;rw[h];exact⟨rfl,rfl,rfl,rfl⟩
 have HY:isEn l=true->enT l=ckT l:=fun h=>by unfold enT;rw[h];rfl
 have HRD:Hid (∀ w0,Calls Tryz.prog 27 #[.string (mk l)] w0 fun x w'=>x=.returned (.tuple #[.string (mk (Quo.rd l).1),.int .i64 ((Quo.rd l).2.1:Int),.agg #[.int .i64 ((Quo.rd l).2.2.1:Int),.int .i64 ((Quo.rd l).2.2.2:Int)]])/\Below w0.heap.size w0 w'):=fun w0=>Quo.rread_any l w0 hl
 by_cases hq:∃ b r,l=b::r/\(b=39\/b=34)
 ·obtain⟨b,r,rfl,hq⟩:=hq;have he1:((mk (b::r)).toList==[])=false:=by rw[ByteArray.toList_eq,mk_data];rfl
  have he2:(mk (b::r)).toList.isEmpty=false:=by rw[ByteArray.toList_eq,mk_data];rfl
  have g0:∀ h,(mk (b::r))[0]'h=b:=fun h=>getD_mkT (b::r) 0 h
  have hs2:0<(mk (b::r)).size:=by rw[mk_size];simp
  have hnp:=quo_noP b r hq;generalize b::r=l at *;by_cases hz:(Quo.rd l).2.2.1=0
  ·have hm:=(Quo.rd_means l hz).2.2;have hV:ckT l=⟨4,(Quo.rd l).1,[],[]⟩/\ckR l=gaps (l.drop (Quo.rd l).2.1)/\ckB l=true:=by unfold ckT ckR ckB;rw[if_pos hz,if_pos hz,if_pos hz];exact⟨rfl,rfl,rfl⟩
   rw[hz]at HRD;have hdl:(l.drop (Quo.rd l).2.1).length=l.length-(Quo.rd l).2.1:=List.length_drop;have hgl:=gapsL (l.drop (Quo.rd l).2.1);obtain⟨g,hg⟩:∃ g,g=(l.drop (Quo.rd l).2.1).length-(gaps (l.drop (Quo.rd l).2.1)).length:=⟨_,rfl⟩;have HGA:Hid (∀ w0,Calls Tryz.prog 25 #[.string (mk (l.drop (Quo.rd l).2.1))] w0 fun x w'=>x=.returned (.int .i64 (g:Int))/\w0=w'):=fun w0=>by rw[hg];exact rgaps_any _ w0 (by omega)
   have hdr:l.drop ((Quo.rd l).2.1+g)=ckR l:=by
    rw[hV.2.1,<-List.drop_drop,hg];exact(List.suffix_iff_eq_drop.1 (List.dropWhile_suffix is32 (l:=l.drop (Quo.rd l).2.1))).symm
   obtain⟨hO,hR,hNn⟩:=bh_en l ((Quo.rd l).2.1+g) hV.2.2 hdr
   have HBH:∀ w0,Calls Tryz.prog 31 #[.string (mk l),.int .i64 (((Quo.rd l).2.1:Int)+(g:Int))] w0 fun x w'=>x=.returned (.tuple #[.string (mk (enR l)),.int .i64 (enN l:Int),.bool (isEn l)])/\w0=w':=fun w0=>by
    have h:=rbehind_any l ((Quo.rd l).2.1+g) w0 (by omega) (by omega);rw[hO,hR,hNn]at h;exact h
   have hext:(mk l).extract (Quo.rd l).2.1 (mk l).size=mk (l.drop (Quo.rd l).2.1):=by rw[mk_size,mk_ext];congr 1;rw[List.take_of_length_le (by simp)]
   cases hi:isEn l
   ·obtain⟨a1,a2,a3,a4⟩:=HN hi;rw[hi]at HBH;rw[a1,a2,a3,a4];exact rent_qno (mk l) b hq he1 he2 g0 hs2 _ _ _ g _ _ _ (by omega) (by omega) (by omega) hext HRD HGA HBH
   ·rw[hi]at HBH;rw[HY hi,hV.1];exact rent_qyes (mk l) b hq he1 he2 g0 hs2 _ _ _ g _ _ _ (by omega) (by omega) (by omega) hext HRD HGA HBH
  ·have hi:isEn l=false:=by unfold isEn ckB;rw[if_neg hz,hnp];rfl
   obtain⟨a1,a2,a3,a4⟩:=HN hi;rw[a1,a2,a3,a4,hi];have he0:(((Quo.rd l).2.2.1:Int)==0)=false:=by rw[beq_eq_false_iff_ne];omega
   exact rent_qbad (mk l) b hq he1 he2 g0 hs2 _ _ _ _ (by unfold bne;rw[he0];rfl) he0 HRD
 ·have hz:(Quo.rd l).2.2.1≠0:=by
   unfold Quo.rd;split
   ·decide
   ·split
    ·rename_i h1 h2;exfalso
     cases l with
     | nil=>exact h1 rfl
     | cons b r=>exact hq ⟨b,r,rfl,h2⟩
    ·decide
  have hQ:(((mk l).toList==[])=true/\(mk l).toList.isEmpty=true)\/(∃ b:UInt8,((mk l).toList==[])=false/\(mk l).toList.isEmpty=false/\(∀ h,(mk l)[0]'h=b)/\0<(mk l).size/\((b.toNat:Int)==39)=false/\((b.toNat:Int)==34)=false):=by
   cases l with
   | nil=>exact .inl ⟨by rw[ByteArray.toList_eq,mk_data];rfl,by rw[ByteArray.toList_eq,mk_data];rfl⟩
   | cons b r =>
    refine .inr ⟨b,by rw[ByteArray.toList_eq,mk_data];rfl,by rw[ByteArray.toList_eq,mk_data];rfl,fun h=>getD_mkT (b::r) 0 h,by rw[mk_size];simp,?_,?_⟩
    ·rw[beq_eq_false_iff_ne];intro e;exact hq ⟨b,r,rfl,.inl (UInt8.toNat_inj.1 (by show b.toNat=39;omega))⟩
    ·rw[beq_eq_false_iff_ne];intro e;exact hq ⟨b,r,rfl,.inr (UInt8.toNat_inj.1 (by show b.toNat=34;omega))⟩
  have hfl:=fin_le l false;have hcl:=cutT_len l false;have HCU:Hid (∀ w0,Calls Tryz.prog 28 #[.string (mk l),.bool false] w0 fun x w'=>x=.returned (.tuple #[.string (mk (cutT l false)),.int .i64 (fin l false:Int)])/\w0=w'):=fun w0=>rcut_any l false w0 (by omega)
  have HIS:Hid (∀ w0,Calls Tryz.prog 29 #[.string (mk (cutT l false)),.bool false] w0 fun x w'=>x=.returned (.bool (isP (cutT l false) false))/\Below w0.heap.size w0 w'):=fun w0=>ris_any _ false w0 (by omega)
  have HRE:Hid (∀ w0,Calls Tryz.prog 30 #[.string (mk (cutT l false))] w0 fun x w'=>x=.returned (.int .i64 (knd (cutT l false)))/\Below w0.heap.size w0 w'):=fun w0=>rresolve_any _ w0 (by omega)
  cases hp:isP (cutT l false) false
  ·have hi:isEn l=false:=by unfold isEn ckB;rw[if_neg hz,hp];rfl
   obtain⟨a1,a2,a3,a4⟩:=HN hi;rw[a1,a2,a3,a4,hi];rw[hp]at HIS;exact rent_pbad (mk l) hQ _ _ HCU HIS
  ·rw[hp]at HIS;have hV:ckT l=⟨knd (cutT l false),if knd (cutT l false)=1 then []else cutT l false,[],[]⟩/\ckR l=l.drop (fin l false)/\ckB l=true:=by unfold ckT ckR ckB;rw[if_neg hz,if_neg hz,if_neg hz,if_pos hp,if_pos hp];exact⟨rfl,rfl,hp⟩
   obtain⟨hO,hR,hNn⟩:=bh_en l (fin l false) hV.2.2 hV.2.1.symm
   have HBH:∀ w0,Calls Tryz.prog 31 #[.string (mk l),.int .i64 (fin l false:Int)] w0 fun x w'=>x=.returned (.tuple #[.string (mk (enR l)),.int .i64 (enN l:Int),.bool (isEn l)])/\w0=w':=fun w0=>by
    have h:=rbehind_any l (fin l false) w0 (by omega) hfl;rw[hO,hR,hNn]at h;exact h
   by_cases hk:knd (cutT l false)=1
   ·rw[if_pos hk,hk]at hV;rw[hk]at HRE;cases hi:isEn l
    ·obtain⟨a1,a2,a3,a4⟩:=HN hi;rw[hi]at HBH;rw[a1,a2,a3,a4];exact rent_pno1 (mk l) hQ _ _ _ _ HCU HIS HRE HBH
    ·rw[hi]at HBH;rw[HY hi,hV.1];exact rent_pyes1 (mk l) hQ _ _ _ _ HCU HIS HRE HBH
   ·rw[if_neg hk]at hV;have hk2:(knd (cutT l false)==1)=false:=by rw[beq_eq_false_iff_ne];exact hk
    have hk1:(knd (cutT l false)!=1)=true:=by unfold bne;rw[hk2];rfl
    cases hi:isEn l
    ·obtain⟨a1,a2,a3,a4⟩:=HN hi;rw[hi]at HBH;rw[a1,a2,a3,a4];exact rent_pno (mk l) hQ _ _ _ hk1 hk2 _ _ HCU HIS HRE HBH
    ·rw[hi]at HBH;rw[HY hi,hV.1];exact rent_pyes (mk l) hQ _ _ _ hk1 hk2 _ _ HCU HIS HRE HBH
end Tre
namespace Tre
open Utf Rws Pln Flw
open Go.RowKit
set_option maxHeartbeats 2000000
variable {w:World}
theorem heads_given (l:Ln) (hl:l.length<=140737488351232) (hT:Tb w) (HAL:Hid (∀ w0,Below w.heap.size w w0->Calls Tryz.prog 14 #[] w0 fun e w'=>e=.returned (.bool true)/\Below w0.heap.size w0 w')) :
  Calls Tryz.prog 3 #[.string (mk l)] w fun e w'=>e=.returned (.bool true)/\Below w.heap.size w w':=by
 have HI:Hid (∀ w0,Calls Tryz.prog 9 #[.string (mk l)] w0 fun e w'=>e=.returned (.tuple #[.string (mk (itR l)),.int .i64 (itN l:Int),.bool (isIt l)])/\w0=w'):=fun w0=>item0_any l w0 (by omega)
 have HJ:Hid (∀ w0,Calls Tryz.prog 10 #[.string (mk l)] w0 fun e w'=>e=.returned (.tuple #[.string (mk (itR l)),.int .i64 (itN l:Int),.bool (isIt l)])/\w0=w'):=fun w0=>ritem_any l w0 (by omega)
 have HE:Hid (∀ w0,Tb w0->Calls Tryz.prog 11 #[.string (mk l)] w0 fun e w'=>e=.returned (.tuple #[.agg #[.int .i64 (enT l).kind,.string (mk (enT l).text),.string ⟨#[]⟩,.slice none 0 0],.string (mk (enR l)),.int .i64 (enN l:Int),.bool (isEn l)])/\Below w0.heap.size w0 w'):=fun w0 h=>entry0_any l hl h
 have HF:Hid (∀ w0,Calls Tryz.prog 12 #[.string (mk l)] w0 fun e w'=>e=.returned (.tuple #[.agg #[.int .i64 (enT l).kind,.string (mk (enT l).text),.string ⟨#[]⟩,.slice none 0 0],.string (mk (enR l)),.int .i64 (enN l:Int),.bool (isEn l)])/\Below w0.heap.size w0 w'):=fun w0=>rentry_any l hl
 have hbd:=en_bd l;have HTb:Hid (Tb w):=hT;clear hT;generalize itR l=aR at *;generalize itN l=aN at *;generalize isIt l=aB at *;generalize (enT l).kind=ck at *;generalize (enT l).text=ct at *;generalize enR l=eR at *;generalize enN l=eN at *;generalize isEn l=eB at *;have hsR:((mk aR).toList==(mk aR).toList)=true:=beq_self_eq_true _;have hsE:((mk eR).toList==(mk eR).toList)=true:=beq_self_eq_true _
 have HS:Hid (∀ w0,Calls Tryz.prog 13 #[.agg #[.int .i64 ck,.string (mk ct),.string ⟨#[]⟩,.slice none 0 0],.agg #[.int .i64 ck,.string (mk ct),.string ⟨#[]⟩,.slice none 0 0]] w0 fun e w'=>e=.returned (.bool true)/\Below w0.heap.size w0 w'):=fun w0 =>
  (rsame_any 1 1 _ _ _ _ w0 (trV_lf w0 ck ct hbd.1 hbd.2.1 (by omega)) (trV_lf w0 ck ct hbd.1 hbd.2.1 (by omega))).mono (fun e w' g=>by obtain⟨q,e1,hq,hb⟩:=g;rw[hq.2 rfl]at e1;exact⟨e1,hb⟩)
 go_enter Tryz.func3,Tryz.ntmps3;go_wp2_with fail;refine(HI.out _).mono ?_;rintro e w' ⟨rfl,rfl⟩;go_wp2_with fail;refine(HJ.out _).mono ?_;rintro e w' ⟨rfl,rfl⟩;go_wp2_with fail;refine(HE.out _ HTb.out).mono ?_;rintro e w3 ⟨rfl,H3⟩;have H3':Hid (Below w.heap.size w w3):=H3;clear H3
 have H4:Hid (Below w.heap.size w (w3.alloc (.cells #[.int .i64 ck,.string (mk ct),.string ⟨#[]⟩,.slice none 0 0] 26))/\Bx (w3.alloc (.cells #[.int .i64 ck,.string (mk ct),.string ⟨#[]⟩,.slice none 0 0] 26)) w3.heap.size #[.int .i64 ck,.string (mk ct),.string ⟨#[]⟩,.slice none 0 0] 26) :=
  ⟨H3'.out.trans ((below_alloc w3 _).mono H3'.out.size),Bx.new w3 _ _⟩
 go_wp2_with fail;refine(HF.out _).mono ?_;rintro e w5 ⟨rfl,H5⟩
 have H6:Hid (∀ w6,w6=w5.alloc (.cells #[.int .i64 ck,.string (mk ct),.string ⟨#[]⟩,.slice none 0 0] 26)->(Below w.heap.size w w6/\Bx w6 w3.heap.size #[.int .i64 ck,.string (mk ct),.string ⟨#[]⟩,.slice none 0 0] 26/\Bx w6 w5.heap.size #[.int .i64 ck,.string (mk ct),.string ⟨#[]⟩,.slice none 0 0] 26)):=fun w6 e=>by
  subst e;have b6:=H5.trans ((below_alloc w5 (.cells #[.int .i64 ck,.string (mk ct),.string ⟨#[]⟩,.slice none 0 0] 26)).mono H5.size);exact⟨H4.out.1.trans (b6.mono H4.out.1.size),H4.out.2.later b6,Bx.new w5 _ _⟩
 clear H5 H4 H3';go_upto_region 5 with fail
 have N6:=H6.out _ rfl;clear H6;generalize w5.alloc (.cells #[.int .i64 ck,.string (mk ct),.string ⟨#[]⟩,.slice none 0 0] 26)=w6 at N6 |-;have H6:Hid (_/\_/\_):=N6;clear N6;obtain⟨k0,k1,k2,k3⟩:=H6.out.2.1.c4;obtain⟨j0,j1,j2,j3⟩:=H6.out.2.2.c4;go_wp2_with fail;refine(HS.out _).mono ?_;rintro e w7 ⟨rfl,H7⟩;have B7:Hid (Below w.heap.size w w7):=H6.out.1.trans (H7.mono H6.out.1.size);clear H7 H6;go_wp2_with fail;refine(HAL.out _ B7.out).mono ?_;rintro e w8 ⟨rfl,H8⟩;have B8:Hid (Below w.heap.size w w8):=B7.out.trans (H8.mono B7.out.size);clear H8;go_wp2;go_ret;exact⟨rfl,B8.out⟩
end Tre
namespace Tre
open Utf Rws Pln Flw
open Go.RowKit
theorem heads_walk (s:ByteArray) (w:World) (hs:s.size<=140737488351232) (hT:Tb w):Calls Tryz.prog 3 #[.string s] w fun e w'=>e=.returned (.bool true)/\Below w.heap.size w w':=by
 have h:=heads_given (w:=w) s.data.toList (Nat.le_trans (Nat.le_of_eq Array.length_toList) hs) hT (fun w0 hb=>alive_any (hT.later hb));rw[show mk s.data.toList=s from rfl]at h;exact h
end Tre
end Go.Proofs.YtommfbbpomfnfaaGreatDoor
