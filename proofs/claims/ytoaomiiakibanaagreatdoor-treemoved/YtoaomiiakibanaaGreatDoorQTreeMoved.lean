/- . -/
import Derived.Test.YtoaomiiakibanaaGreatDoorQTbF
import Derived.Test.YtoaomiiakibanaaGreatDoorQTbQ
import Derived.Test.YtoaomiiakibanaaGreatDoorQTbL
import Derived.Maps.AppendAt
import Derived.OpenShut
set_option linter.unusedSimpArgs false
set_option linter.unusedVariables false
set_option maxRecDepth 100000
namespace Go.Proofs.YtoaomiiakibanaaGreatDoor
namespace Tre
open Utf Rws Pln Flw
open Go.RowKit
open Blk (Rw RwAt z3 lo rws joinW trm fld headO hdV mx addL)
def sh (b:Nat) (r:Rw):Rw:=(r.1+(b:Int),r.2)
def shH (b:Nat) (h:Hd):Hd:=(sh b h.1,h.2)
def Mv (b:Nat) (r:Rw):Prop:=0<=r.1/\r.1+(r.2.1.length:Int)+(b:Int)<=9223372036854775807
theorem cnt_sh (b:Nat) (rs:List Rw):cnt (rs.map (sh b))=(cnt rs).map (sh b):=by
 induction rs with
 | nil=>rfl
 | cons r t ih =>
  unfold cnt at *;rw[List.map_cons,List.dropWhile_cons,List.dropWhile_cons];by_cases h:noth r.2.1=true
  ·rw[if_pos (show noth (sh b r).2.1=true from h),if_pos h,ih]
  ·rw[if_neg (show ¬ noth (sh b r).2.1=true from h),if_neg h];rfl
theorem dpr_sh (b:Nat) (c:Int) (r:Rw):dpr (c+(b:Int)) (sh b r)=dpr c r:=by
 unfold dpr sh;congr 1;rw[Bool.eq_iff_iff];simp only[decide_eq_true_eq];omega
theorem dpn_sh (b:Nat) (c:Int) (rs:List Rw):dpn (rs.map (sh b)) (c+(b:Int))=dpn rs c:=by
 unfold dpn
 induction rs with
 | nil=>rfl
 | cons r t ih =>
  rw[List.map_cons,List.takeWhile_cons,List.takeWhile_cons,dpr_sh];split
  ·rw[List.length_cons,List.length_cons,ih]
  ·rfl
theorem stE_sh (b:Nat) (c:Int) (rs:List Rw):stE (c+(b:Int)) (rs.map (sh b))=stE c rs:=by
 unfold stE;rw[cnt_sh]
 cases cnt rs with
 | nil=>rfl
 | cons r t =>
  simp only[List.map_cons];by_cases h:r.1<c
  ·rw[if_pos h,if_pos (show (sh b r).1<c+(b:Int) by unfold sh;simp only;omega)]
  ·rw[if_neg h,if_neg (show ¬ (sh b r).1<c+(b:Int) by unfold sh;simp only;omega)]
theorem stA_sh (b:Nat) (rs:List Rw):stA (rs.map (sh b))=stA rs:=by
 unfold stA;rw[cnt_sh];cases cnt rs<;>rfl
theorem lnM_sh (b:Nat) (c z:Int) (l:Ln) (rs:List Rw):lnM (c+(b:Int)) z l (rs.map (sh b))=lnM c z l rs:=by
 unfold lnM;rw[stE_sh,stA_sh]
theorem mx_sh (b:Nat) {c:Int} (h:0<=c):mx (c+(b:Int))=mx c+b:=by
 unfold mx;omega
theorem rws_sh (b:Nat) (c:Int):∀ rs:List Rw,(∀ r∈rs,0<=r.1)->rws (rs.map (sh b)) (c+(b:Int))=(rws rs c).map (sh b)
 | [],_=>rfl
 | r::t,h=>by
  have h0:=h r (by simp);have ih:=rws_sh b c t (fun q hq=>h q (by simp[hq]));rw[List.map_cons,Blk.rws_cons,Blk.rws_cons,ih]
  have e:((sh b r).2.1=[]\/c+(b:Int)<(mx (sh b r).1:Int)) ↔ (r.2.1=[]\/c<(mx r.1:Int)):=by
   have:=mx_sh b h0;unfold sh;simp only[this];constructor
   ·rintro(h | h)
    ·exact .inl h
    ·exact .inr (by omega)
   ·rintro(h | h)
    ·exact .inl h
    ·exact .inr (by omega)
  by_cases hc:r.2.1=[]\/c<(mx r.1:Int)
  ·rw[if_pos hc,if_pos (e.2 hc)];rfl
  ·rw[if_neg hc,if_neg (fun q=>hc (e.1 q))];rfl
theorem lo_sh (b:Nat):∀ (o:Option Nat) (rs:List Rw),(∀ r∈rs,0<=r.1)->lo (o.map (· + b)) (rs.map (sh b))=lo o rs
 | o,[],_=>by cases o<;>rfl
 | o,r::t,h=>by
  have h0:=h r (by simp);have ht:∀ q∈t,0<=q.1:=fun q hq=>h q (by simp[hq])
  rw[List.map_cons,lo,lo];by_cases he:r.2.1=[]
  ·rw[if_pos (show (sh b r).2.1=[]from he),if_pos he,lo_sh b o t ht]
  ·rw[if_neg (show ¬ (sh b r).2.1=[]from he),if_neg he];have e1:mx (sh b r).1=mx r.1+b:=mx_sh b h0;have e2:(o.map (· + b)).getD (mx r.1+b)=o.getD (mx r.1)+b:=by cases o<;>rfl
   rw[e1,e2];by_cases hc:mx r.1<o.getD (mx r.1)\/o.getD (mx r.1)+65536<mx r.1
   ·rw[if_pos hc,if_pos (by omega)];rfl
   ·rw[if_neg hc,if_neg (by omega)];have:=lo_sh b (some (o.getD (mx r.1))) t ht;rw[Option.map_some]at this;rw[this,show mx r.1+b-(o.getD (mx r.1)+b)=mx r.1-o.getD (mx r.1) by omega];rfl
theorem blM_sh (b:Nat) (c z:Int) (p:Pp) (f:Bool) (ch:Int) (rs:List Rw) (h:∀ r∈rs,0<=r.1):blM (c+(b:Int)) z p f ch (rs.map (sh b))=blM c z p f ch rs:=by
 unfold blM;have h1:=lo_sh b none (rws rs c) (fun r hr=>h r ((List.takeWhile_prefix _).subset hr));rw[rws_sh b c rs h,show lo none ((rws rs c).map (sh b))=lo none (rws rs c)from h1]
 cases lo none (rws rs c)with
 | inr x=>rfl
 | inl ls =>
  simp only;rw[<-List.map_drop,stE_sh,stA_sh]
theorem hds_sh (b:Nat) (dp:Bool):∀ (n:Nat) (c:Int) (rs:List Rw),hds dp n (c+(b:Int)) (rs.map (sh b))=((hds dp n c rs).1.map (shH b),(hds dp n c rs).2.1.map (sh b),(hds dp n c rs).2.2)
 | 0,_,_=>rfl
 | n+1,c,rs=>by
  unfold hds;rw[cnt_sh]
  cases cnt rs with
  | nil=>rfl
  | cons r rest =>
   simp only[List.map_cons];by_cases h1:r.1<c
   ·rw[if_pos h1,if_pos (show (sh b r).1<c+(b:Int) by unfold sh;simp only;omega)];rfl
   ·rw[if_neg h1,if_neg (show ¬ (sh b r).1<c+(b:Int) by unfold sh;simp only;omega)];by_cases h2:(!noth (CP ⟨[],0⟩ r.2.1).2 || dp)=true
    ·rw[if_pos h2,if_pos (show (!noth (CP ⟨[],0⟩ (sh b r).2.1).2 || dp)=true from h2)];rfl
    ·rw[if_neg h2,if_neg (show ¬ (!noth (CP ⟨[],0⟩ (sh b r).2.1).2 || dp)=true from h2)];have ih:=hds_sh b dp n r.1 rest;rw[show (sh b r).1=r.1+(b:Int)from rfl,ih];rfl
theorem hds_sh0 (b:Nat) (dp:Bool) (n:Nat) (c:Int) (rs:List Rw) (hc:c<=0) (h:∀ r∈rs,0<=r.1):hds dp n c (rs.map (sh b))=((hds dp n c rs).1.map (shH b),(hds dp n c rs).2.1.map (sh b),(hds dp n c rs).2.2):=by
 cases n with
 | zero=>rfl
 | succ n =>
  unfold hds;rw[cnt_sh];have hs:=cnt_suffix rs
  cases hq:cnt rs with
  | nil=>rfl
  | cons r rest =>
   have h0:0<=r.1:=h r (hs.subset (by rw[hq];simp));simp only[List.map_cons];rw[if_neg (show ¬ r.1<c by omega),if_neg (show ¬ (sh b r).1<c by unfold sh;simp only;omega)];by_cases h2:(!noth (CP ⟨[],0⟩ r.2.1).2 || dp)=true
   ·rw[if_pos h2,if_pos (show (!noth (CP ⟨[],0⟩ (sh b r).2.1).2 || dp)=true from h2)];rfl
   ·rw[if_neg h2,if_neg (show ¬ (!noth (CP ⟨[],0⟩ (sh b r).2.1).2 || dp)=true from h2)];have ih:=hds_sh b dp n r.1 rest;rw[show (sh b r).1=r.1+(b:Int)from rfl,ih];rfl
theorem beM_core (b:Nat) {val val':Rw->List Rw->Tf} {dp:Bool} {h h':Hd} {rs:List Rw} (hh:∀ r rest,(r::rest) <:+ rs->val' (sh b r) (rest.map (sh b))=val r rest) (h1:h'.1.2=h.1.2) (h2:h'.2=h.2)
  (hq:hds dp (rs.length+1) h'.1.1 (rs.map (sh b))=((hds dp (rs.length+1) h.1.1 rs).1.map (shH b),(hds dp (rs.length+1) h.1.1 rs).2.1.map (sh b),(hds dp (rs.length+1) h.1.1 rs).2.2)):beM val' dp h' (rs.map (sh b))=beM val dp h rs:=by
 unfold beM;simp only[List.length_map];rw[hq];have hs:=hds_suffix dp (rs.length+1) h.1.1 rs;generalize hds dp (rs.length+1) h.1.1 rs=q at *;obtain⟨hs',us,y,z⟩:=q;simp only;have ho:∀ t,orM h' t=orM h t:=fun t=>by unfold orM;rw[h1,h2]
 have hn:noM h'=noM h:=by unfold noM;rw[h1,h2]
 have hb:∀ (l:List Hd) (r:Tf),bak (l.map (shH b)++[h']) r=bak (l++[h]) r:=fun l=>by
  induction l with
  | nil=>intro r;simp only[List.map_nil,List.nil_append,bak];rw[ho]
  | cons x l ih=>intro r;simp only[List.map_cons,List.cons_append,bak];rw[ih];rfl
 split
 ·rfl
 ·cases us with
  | cons r rest =>
   simp only[List.map_cons,List.reverse_cons];rw[<-List.map_reverse,hb,hh r rest hs]
  | nil =>
   simp only[List.map_nil,List.reverse_cons];rw[<-List.map_reverse]
   cases hs'.reverse with
   | nil=>simp only[List.map_nil,List.nil_append,List.tail_cons,List.headD_cons,bak];exact hn
   | cons x l =>
    simp only[List.map_cons,List.cons_append,List.tail_cons,List.headD_cons];rw[hb];rfl
theorem meM_sh (b:Nat) {val:Int->Rw->List Rw->Tf} (ar:Int) (r:Rw) (l:Ln) (u:List Rw) (hu:∀ q∈u,0<=q.1) (hh:∀ q rest,(q::rest) <:+ u->val ar (sh b q) (rest.map (sh b))=val ar q rest):meM val ar (sh b r) l (u.map (sh b))=meM val ar r l u:=by
 unfold meM mnM;split
 ·exact beM_core b hh rfl rfl (hds_sh b _ _ r.1 u)
 ·cases headO (note (CP ⟨[],0⟩ l).2)with
  | none=>exact lnM_sh b r.1 r.2.2 l u
  | some s=>exact blM_sh b r.1 r.2.2 _ _ _ u hu
theorem mvd_sh (b:Nat) {r:Rw} (h:Mv b r) (hi:isIt r.2.1=true):sh b (mvd r.1 (itN r.2.1),itR r.2.1,r.2.2)=(mvd (r.1+(b:Int)) (itN r.2.1),itR r.2.1,r.2.2)/\Mv b (mvd r.1 (itN r.2.1),itR r.2.1,r.2.2):=by
 obtain⟨h1,h2⟩:=h;have h3:=itN_le r.2.1
 have h4:(itN r.2.1:Int)+((itR r.2.1).length:Int)<=(r.2.1.length:Int):=by
  have h5:=itR_len hi;unfold itN itR at *;rw[if_pos hi]at *;rw[if_pos hi]at *;omega
 have e1:mvd r.1 (itN r.2.1)=r.1+(itN r.2.1:Int):=by unfold mvd;rw[if_pos (by omega)]
 have e2:mvd (r.1+(b:Int)) (itN r.2.1)=r.1+(b:Int)+(itN r.2.1:Int):=by unfold mvd;rw[if_pos (by omega)]
 refine⟨?_,?_,?_⟩
 ·unfold sh;rw[e1,e2];simp only;congr 1;omega
 ·show 0<=mvd r.1 (itN r.2.1);rw[e1];omega
 ·show mvd r.1 (itN r.2.1)+((itR r.2.1).length:Int)+(b:Int)<=_;rw[e1];omega
theorem kiM_sh (b:Nat) {part:Rw->List Rw->List Tr × Int × Int} (c:Int):∀ (n:Nat) (r:Rw) (more:List Rw) (acc:List Tr),(∀ q us,(q::us) <:+: (r::more)->part (sh b q) (us.map (sh b))=part q us)->kiM part (c+(b:Int)) n (sh b r) (more.map (sh b)) acc=kiM part c n r more acc
 | 0,_,_,_,_=>rfl
 | n+1,r,more,acc,h=>by
  rw[kiM,kiM,dpn_sh,<-List.map_take,<-List.map_drop,h r (more.take (dpn more c)) ⟨[],more.drop (dpn more c),by simp⟩];split
  ·rfl
  ·cases hd:more.drop (dpn more c)with
   | nil=>rfl
   | cons r' rest =>
    simp only[List.map_cons];have hs:(r'::rest) <:+ (r::more):=by rw[<-hd];exact(List.drop_suffix _ _).trans (List.suffix_cons _ _)
    have ih:=kiM_sh b c n r' rest (acc++(part r (more.take (dpn more c))).1) (fun q us hq=>h q us (hq.trans hs.isInfix));by_cases hc:r'.1<c
    ·rw[if_pos hc,if_pos (show (sh b r').1<c+(b:Int) by unfold sh;simp only;omega)];rfl
    ·rw[if_neg hc,if_neg (show ¬ (sh b r').1<c+(b:Int) by unfold sh;simp only;omega),ih]
theorem itP_sh (b:Nat) {val:Int->Rw->List Rw->Tf} (ar:Int) (r:Rw) (u:List Rw) (hr:Mv b r) (hu:∀ q∈u,0<=q.1) (hv:∀ q,Mv b q->val ar (sh b q) (u.map (sh b))=val ar q u) (hh:∀ q rest,(q::rest) <:+ u->val ar (sh b q) (rest.map (sh b))=val ar q rest) :
  itP val ar (sh b r) (u.map (sh b))=itP val ar r u:=by
 unfold itP;by_cases hi:isIt r.2.1=false
 ·rw[if_pos hi,if_pos (show isIt (sh b r).2.1=false from hi)];rfl
 ·rw[if_neg hi,if_neg (show ¬ isIt (sh b r).2.1=false from hi)];have hi':isIt r.2.1=true:=by simpa using hi
  obtain⟨e,m⟩:=mvd_sh b hr hi';by_cases hc:isIt (itR r.2.1)=true\/isEn (itR r.2.1)=true
  ·rw[if_pos hc,if_pos (show isIt (itR (sh b r).2.1)=true\/isEn (itR (sh b r).2.1)=true from hc)];have h:=hv _ m;rw[e]at h;show ([(val ar (mvd (r.1+(b:Int)) (itN r.2.1),itR r.2.1,r.2.2) (u.map (sh b))).1],_)=_;rw[show (sh b r)=(r.1+(b:Int),r.2.1,r.2.2)from rfl];simp only;rw[h]
  ·rw[if_neg hc,if_neg (show ¬ (isIt (itR (sh b r).2.1)=true\/isEn (itR (sh b r).2.1)=true)from hc)];rw[show (sh b r).2.1=r.2.1 from rfl,meM_sh b ar r (itR r.2.1) u hu hh]
theorem enP_sh (b:Nat) {val:Int->Rw->List Rw->Tf} (ar:Int) (r:Rw) (u:List Rw) (hu:∀ q∈u,0<=q.1) (hh:∀ q rest,(q::rest) <:+ u->val ar (sh b q) (rest.map (sh b))=val ar q rest) :
  enP val ar (sh b r) (u.map (sh b))=enP val ar r u:=by
 unfold enP;rw[show (sh b r).2.1=r.2.1 from rfl,show (sh b r).2.2=r.2.2 from rfl,meM_sh b ar r (enR r.2.1) u hu hh]
theorem vaM_sh (b:Nat):∀ (n:Nat) (ar:Int) (r:Rw) (rs:List Rw),(∀ q∈r::rs,Mv b q)->vaM n ar (sh b r) (rs.map (sh b))=vaM n ar r rs
 | 0,_,_,_,_=>rfl
 | n+1,ar,r,rs,h=>by
  have h0:∀ us,us <:+: (r::rs)->∀ q∈us,0<=q.1:=fun us hs q hq=>(h q (hs.subset hq)).1
  have hsub:∀ (us:List Rw),us <:+: (r::rs)->∀ q rest,(q::rest) <:+ us->vaM n ar (sh b q) (rest.map (sh b))=vaM n ar q rest:=fun us hs q rest hq=>vaM_sh b n ar q rest (fun x hx=>h x (hs.subset (hq.subset hx)))
  have hsub1:∀ (us:List Rw),us <:+: (r::rs)->∀ q rest,(q::rest) <:+ us->vaM n (ar+1) (sh b q) (rest.map (sh b))=vaM n (ar+1) q rest:=fun us hs q rest hq=>vaM_sh b n (ar+1) q rest (fun x hx=>h x (hs.subset (hq.subset hx)))
  have tl:∀ (q:Rw) (us:List Rw),(q::us) <:+: (r::rs)->us <:+: (r::rs):=fun q us hs=>(List.suffix_cons q us).isInfix.trans hs
  have e1:=kiM_sh b (part:=itP (vaM n) (ar+1)) r.1 (rs.length+1) r rs [] (fun q us hs=>itP_sh b (ar+1) q us (h q (hs.subset (by simp))) (h0 us (tl q us hs)) (fun x hx=>vaM_sh b n (ar+1) x us (fun y hy=>by
   rcases List.mem_cons.1 hy with rfl | hy
   ·exact hx
   ·exact h y (hs.subset (by simp[hy])))) (hsub1 us (tl q us hs)))
  have e2:=kiM_sh b (part:=enP (vaM n) (ar+1)) r.1 (rs.length+1) r rs [] (fun q us hs=>enP_sh b (ar+1) q us (h0 us (tl q us hs)) (hsub1 us (tl q us hs)));rw[vaM,vaM,List.length_map,show (sh b r).2=r.2 from rfl,show (sh b r).1=r.1+(b:Int)from rfl,e1,e2];split
  ·rfl
  ·split
   ·rfl
   ·split
    ·rfl
    ·exact meM_sh b ar r r.2.1 rs (h0 rs (List.suffix_cons r rs).isInfix) (hsub rs (List.suffix_cons r rs).isInfix)
theorem beM_sh (b n:Nat) (c:Int) (rs:List Rw) (hc:c<=0) (h:∀ q∈rs,Mv b q):beM (vaM n 0) false ((c,[],0),⟨[],0⟩) (rs.map (sh b))=beM (vaM n 0) false ((c,[],0),⟨[],0⟩) rs :=
 beM_core b (fun r rest hs=>vaM_sh b n 0 r rest (fun x hx=>h x (hs.subset hx))) rfl rfl (hds_sh0 b false _ c rs hc (fun r hr=>(h r hr).1))
end Tre
namespace Tre
open Utf Rws Pln Flw
open Go.RowKit
open Blk (Rw RwAt z3 StrsAt rC rowV rowV_app rw_own)
set_option maxHeartbeats 4000000
theorem paM_sh (b n:Nat) (rs:List Rw) (h:∀ q∈rs,Mv b q):paM n (rs.map (sh b))=paM n rs:=by
 unfold paM;rw[show top=((-9223372036854775808,[],0),⟨[],0⟩)from rfl,beM_sh b n _ rs (by decide) h]
theorem moved_go {T:Tr} {q z:Int} (bb:Nat) (hbb:bb<=255) (a:Option Addr) (len cap:Nat) (rs:List Rw) (w:World) (hR:RowsIn w a len cap rs) (hl:len<=300) (hc4:∀ r∈rs,r.1<=400) (hc0:∀ r∈rs,-9223372036854775808<=r.1)
  (HAL:Hid (∀ w0,Below w.heap.size w w0->Calls Tryz.prog 14 #[] w0 fun e w'=>e=.returned (.bool true)/\Hid (Below w.heap.size w w')))
  (HW:Hid (Calls Tryz.prog 20 #[.slice a len cap] w fun e w'=>e=.returned (.bool false)/\Hid (Below w.heap.size w w')))
  (HPA:Hid (∀ w0,Below w.heap.size w w0->Calls Tryz.prog 17 #[.slice a len cap] w0 fun e w'=>TfD 129 (T,q,z) w0 e w'))
  (HPK:Hid ((∀ r∈rs,0<=r.1)->∀ a' cap' w0,Below w.heap.size w w0->RowsA w0 a' len cap' (rs.map (sh bb))->Calls Tryz.prog 17 #[.slice a' len cap'] w0 fun e w'=>TfD 129 (T,q,z) w0 e w')) :
  Calls Tryz.prog 7 #[.slice a len cap,.int .u8 (bb:Int)] w fun e w'=>e=.returned (.bool true)/\Below w.heap.size w w':=by
 obtain⟨it,hi,hz0,hz1,hz2⟩:=info_parts infoRowT;have HRI:Hid (RowsIn w a len cap rs):=hR;have HC4:Hid ((∀ r∈rs,r.1<=400)/\∀ r∈rs,-9223372036854775808<=r.1):=⟨hc4,hc0⟩;have hcl:len<=cap:=hR.2.1;have hcm:cap<=9223372036854775807:=hR.2.2.1;clear hR hc4 hc0;go_enter Tryz.func7,Tryz.ntmps7;go_wp2_with fail;refine HW.out.mono ?_;rintro e w1 ⟨rfl,H1⟩;clear HW;go_wp2_with fail
 go_loopw [5,17] (fun u5 ui wr=>∃ j:Nat,j<=len/\ui=.int .i64 (j:Int)/\Hid (Below w.heap.size w wr/\wr.ownsRow w.heap.size 40 3 u5 j (rowV ((rs.take j).map (sh bb)))/\∀ i,i<j->0<=(rs.getD i z3).1)) (fun _ ui _=>len-(intOf ui).toNat)
 case atStart=>exact⟨0,Nat.zero_le _,rfl,H1.out,World.ownsRow_nil _ _ _ _,fun i hi=>absurd hi (Nat.not_lt_zero _)⟩
 case round =>
  obtain⟨j,hj,rfl,HL⟩:=hrel;clear H1;by_cases hlt:j<len
  ·obtain⟨b,off,had,hb,hcell⟩:=HRI.out.1.2 (by omega);obtain⟨x0,x1,x2'⟩:=hcell j hlt;subst had;have hjr:j<rs.length:=by have:=HRI.out.1.1;omega
   have c0:=(HL.out.1.cell (p:=⟨b,off+j*3,none⟩) hb).trans x0;have c1:=(HL.out.1.cell (p:=⟨b,off+j*3+1,none⟩) hb).trans x1;have c2:=(HL.out.1.cell (p:=⟨b,off+j*3+2,none⟩) hb).trans x2';have h4:=HC4.out.1 _ (getD_memR hjr);have h5:=HC4.out.2 _ (getD_memR hjr)
   have HZ:Hid (0<=(rs.getD j z3).1->∀ i,i<j+1->0<=(rs.getD i z3).1):=fun h i hi=>by
    by_cases e:i=j
    ·rw[e];exact h
    ·exact HL.out.2.2 i (by omega)
   have HTK:Hid ((rs.take (j+1)).map (sh bb)=(rs.take j).map (sh bb)++[sh bb (rs.getD j z3)]):=by
    show _=_;rw[Blk.take_getR rs j hjr,List.map_append];rfl
   obtain⟨x,hx⟩:∃ x,x=rs.getD j z3:=⟨_,rfl⟩;rw[<-hx]at c0 c1 c2 HZ HTK h4 h5;obtain⟨y1,y2,y3⟩:=x;simp only at c0 c1 c2 HZ h4 h5;clear x0 x1 x2' hcell hb hx hjr;by_cases hneg:y1<0
   ·have B7:Hid (Below w.heap.size w (wr.alloc (.cells #[.int .i64 y1,.string (mk y2),.int .i64 y3] 40))):=HL.out.1.alloc HL.out.1.size _;go_wp2_with fail;refine(HAL.out _ B7.out).mono ?_;rintro e w8 ⟨rfl,H8⟩;go_wp2;go_ret;exact⟨rfl,H8.out⟩
   ·have hpos:0<=y1:=by omega
    have HZ2:Hid (∀ i,i<j+1->0<=(rs.getD i z3).1):=HZ.out hpos;clear HZ;have HB1:Hid (Below w.heap.size w ((wr.alloc (.cells #[.int .i64 y1,.string (mk y2),.int .i64 y3] 40)).alloc (.cells #[.int .i64 (y1+(bb:Int)),.string (mk y2),.int .i64 y3] 40))):=(HL.out.1.alloc HL.out.1.size _).alloc (by rw[World.size_alloc];have:=HL.out.1.size;omega) _;have s1:(wr.alloc (.cells #[.int .i64 y1,.string (mk y2),.int .i64 y3] 40)).heap.size=wr.heap.size+1:=World.size_alloc _ _;have HO2:Hid (((wr.alloc (.cells #[.int .i64 y1,.string (mk y2),.int .i64 y3] 40)).alloc (.cells #[.int .i64 (y1+(bb:Int)),.string (mk y2),.int .i64 y3] 40)).ownsRow w.heap.size 40 3 u5 j (rowV ((rs.take j).map (sh bb)))):=Blk.own_later (Blk.own_later HL.out.2.1 (below_alloc wr _)) (below_alloc (wr.alloc (.cells #[.int .i64 y1,.string (mk y2),.int .i64 y3] 40)) _)
    have HX7:Hid (Bx ((wr.alloc (.cells #[.int .i64 y1,.string (mk y2),.int .i64 y3] 40)).alloc (.cells #[.int .i64 (y1+(bb:Int)),.string (mk y2),.int .i64 y3] 40)) (wr.heap.size+1) #[.int .i64 (y1+(bb:Int)),.string (mk y2),.int .i64 y3] 40):=by
     rw[<-s1];exact Bx.new _ _ _
    have hbase:w.heap.size<=((wr.alloc (.cells #[.int .i64 y1,.string (mk y2),.int .i64 y3] 40)).alloc (.cells #[.int .i64 (y1+(bb:Int)),.string (mk y2),.int .i64 y3] 40)).heap.size:=HB1.out.size;have hml:j+1<=maxLen:=by unfold maxLen;omega
    have hbs:(j+1)*32<=140737488355328:=by omega
    have hne:∀ u∈([[.int .i64 (y1+(bb:Int)),.string (mk y2),.int .i64 y3]]:List (List Value)).flatten,u.oneCell'=true:=by
     intro u hu;simp only[List.flatten_cons,List.flatten_nil,List.append_nil,List.mem_cons,List.not_mem_nil,or_false]at hu;rcases hu with rfl | rfl | rfl<;>rfl
    replace hne:∀ u∈([.int .i64 (y1+(bb:Int)),.string (mk y2),.int .i64 y3]:List Value),u.oneCell'=true:=by simpa using hne
    go_wp2_with (at_builtin;refine wpList_append_own_at _ rfl _ _ 41 rfl w.heap.size 40 it (.agg #[.int .i64 0,.string ⟨#[]⟩,.int .i64 0]) 3 32 Tryz.underlying41 hi hz0 hz1 hz2 rfl (by decide) u5 j (rowV ((rs.take j).map (sh bb))) rfl HO2.out ⟨wr.heap.size+1,0,none⟩ 1 1 [.int .i64 (y1+(bb:Int)),.string (mk y2),.int .i64 y3] rfl rfl (fun jj u hjj=>by rw[show (⟨wr.heap.size+1,0,none⟩:Addr).add jj=⟨wr.heap.size+1,jj,none⟩from by simp[Addr.add];exact fun h=>h.symm,HX7.out.cell jj];simpa using hjj) hne hml hbs hbase ?_);intro v' w5 hown5 hgr5 _ hat5
    have HB5:Hid (Below w.heap.size w w5/\w5.ownsRow w.heap.size 40 3 v' (j+1) (rowV ((rs.take (j+1)).map (sh bb)))/\∀ i,i<j+1->0<=(rs.getD i z3).1):=by
     refine⟨⟨hgr5.os.trans HB1.out.os,hgr5.tape.trans HB1.out.tape,hgr5.output.trans HB1.out.output,Nat.le_trans HB1.out.size hgr5.size,fun k hk=>(hgr5.block k (by have:=HB1.out.size;omega) (fun e=> ?_)).trans (HB1.out.block k hk)⟩,?_,HZ2.out⟩
     ·have h2:=HO2.out.2;rcases h2 with ⟨e2,_⟩ | ⟨g,_,_,e2,hg,_⟩
      ·rw[e2]at e;cases e
      ·rw[e2]at e;cases e;exact absurd hk (Nat.not_lt.2 hg)
     ·rw[HTK.out,rowV_app,List.map_take];exact hown5
    clear hown5 hgr5 hat5 HO2 HX7 HB1 HZ2 HTK;go_wp2_with fail;go_roundw
    case rel=>exact⟨j+1,by omega,by go_num,HB5⟩
    case measure=>(simp[intOf]<;>omega)
  ·have e:j=len:=by omega
   have hln:=HRI.out.1.1;have hown:=HL.out.2.1;rw[e,hln,List.take_of_length_le (Nat.le_refl _)]at hown
   have hnn:∀ r∈rs,0<=r.1:=fun r hr=>by
    obtain⟨i,hi,rfl⟩:=List.getElem_of_mem hr;have:=HL.out.2.2 i (by omega)
    rwa [List.getD_eq_getElem?_getD,List.getElem?_eq_getElem hi]at this
   obtain⟨a',cap',hv,hra⟩:=rows_ownA (rs:=rs.map (sh bb)) (by rw[List.length_map];exact hown) (fun r hr=>by
    obtain⟨r0,h0,rfl⟩:=List.mem_map.1 hr;exact HRI.out.2.2.2 r0 h0)
   rw[List.length_map,<-hln]at hv hra;subst hv;have HB0:Hid (Below w.heap.size w wr):=HL.out.1
   have HPB:Hid (∀ w0,Below wr.heap.size wr w0->Calls Tryz.prog 17 #[.slice a' len cap'] w0 fun e w'=>TfD 129 (T,q,z) w0 e w'):=fun w0 hb =>
    HPK.out hnn a' cap' w0 (HB0.out.trans (hb.mono HB0.out.size)) (hra.later hb)
   clear hown hnn hra HL hln e HPK HC4 HRI;go_wp2_with fail;refine(HPA.out wr HB0.out).mono ?_;rintro e w3 ⟨v,rfl,ht,hb3⟩;obtain⟨k2,x2,a2,ad2,len2,cap2,rfl⟩:=ht.cells
   have H5:Hid (∀ w5,w5=(w3.alloc (.cells #[.int .i64 k2,.string x2,.string a2,.slice ad2 len2 cap2] 26)).alloc (.cells #[.int .i64 q,.int .i64 z] 34)->Below wr.heap.size wr w5/\Bx w5 w3.heap.size #[.int .i64 k2,.string x2,.string a2,.slice ad2 len2 cap2] 26/\Bx w5 (w3.heap.size+1) #[.int .i64 q,.int .i64 z] 34/\TrV w5 129 (.agg #[.int .i64 k2,.string x2,.string a2,.slice ad2 len2 cap2]) T):=fun w5 e=>by
    subst e;have h2:=two_b w3 #[.int .i64 k2,.string x2,.string a2,.slice ad2 len2 cap2] #[.int .i64 q,.int .i64 z] 26 34;exact⟨hb3.trans (h2.1.mono hb3.size),h2.2.1,h2.2.2,TrP.v (ht.later h2.1)⟩
   clear ht hb3;go_upto_region 12 with fail
   have HS:Hid (_/\_/\_/\_):=H5.out _ rfl;clear H5;generalize (w3.alloc (.cells #[.int .i64 k2,.string x2,.string a2,.slice ad2 len2 cap2] 26)).alloc (.cells #[.int .i64 q,.int .i64 z] 34)=w5 at HS |-;generalize w3.heap.size+1=KF at HS |-;generalize w3.heap.size=KT at HS |-;go_wp2_with fail;refine(HPB.out w5 HS.out.1).mono ?_;rintro e w4 ⟨v,rfl,ht,hb4⟩;obtain⟨k3,x3,a3,ad3,len3,cap3,rfl⟩:=ht.cells
   have H6:Hid (∀ w6,w6=(w4.alloc (.cells #[.int .i64 k3,.string x3,.string a3,.slice ad3 len3 cap3] 26)).alloc (.cells #[.int .i64 q,.int .i64 z] 34)->Below w.heap.size w w6/\Bx w6 KT #[.int .i64 k2,.string x2,.string a2,.slice ad2 len2 cap2] 26/\Bx w6 KF #[.int .i64 q,.int .i64 z] 34/\Bx w6 w4.heap.size #[.int .i64 k3,.string x3,.string a3,.slice ad3 len3 cap3] 26/\Bx w6 (w4.heap.size+1) #[.int .i64 q,.int .i64 z] 34/\TrV w6 129 (.agg #[.int .i64 k2,.string x2,.string a2,.slice ad2 len2 cap2]) T/\TrV w6 129 (.agg #[.int .i64 k3,.string x3,.string a3,.slice ad3 len3 cap3]) T):=fun w6 e=>by
    subst e;have h2:=two_b w4 #[.int .i64 k3,.string x3,.string a3,.slice ad3 len3 cap3] #[.int .i64 q,.int .i64 z] 26 34;have b:=hb4.trans (h2.1.mono hb4.size);have b0:=HB0.out.trans (HS.out.1.mono HB0.out.size);exact⟨b0.trans (b.mono b0.size),HS.out.2.1.later b,HS.out.2.2.1.later b,h2.2.1,h2.2.2,HS.out.2.2.2.later b (Nat.le_refl _),TrP.v (ht.later h2.1)⟩
   clear ht hb4 HS;go_upto_region 13 with fail
   have HS:Hid (_/\_/\_/\_/\_/\_/\_):=H6.out _ rfl;clear H6;generalize (w4.alloc (.cells #[.int .i64 k3,.string x3,.string a3,.slice ad3 len3 cap3] 26)).alloc (.cells #[.int .i64 q,.int .i64 z] 34)=w6 at HS |-;generalize w4.heap.size+1=KG at HS |-;generalize w4.heap.size=KU at HS |-;obtain⟨t0,t1,t2,t3⟩:=HS.out.2.1.c4;obtain⟨u0,u1,u2,u3⟩:=HS.out.2.2.2.1.c4
   have HSA:Hid (Calls Tryz.prog 13 #[.agg #[.int .i64 k2,.string x2,.string a2,.slice ad2 len2 cap2],.agg #[.int .i64 k3,.string x3,.string a3,.slice ad3 len3 cap3]] w6 fun e w'=>e=.returned (.bool true)/\Hid (Below w6.heap.size w6 w')) :=
    (rsame_any _ _ _ _ _ _ w6 HS.out.2.2.2.2.2.1 HS.out.2.2.2.2.2.2).mono (fun e w' g=>by obtain⟨y,e1,hy,hb⟩:=g;rw[hy.2 rfl]at e1;exact⟨e1,hb⟩)
   go_wp2_with fail;refine HSA.out.mono ?_;rintro e w7 ⟨rfl,H7⟩;have B7:Hid (Below w.heap.size w w7):=HS.out.1.trans (H7.out.mono HS.out.1.size);obtain⟨f0,f1⟩:=Bx.c2 ((HS.out.2.2.1.later H7.out));obtain⟨g0,g1⟩:=Bx.c2 ((HS.out.2.2.2.2.1.later H7.out));have he:=eql_flt q q z z w7;have heb:(q==q && z==z)=true:=by simp
   rw[heb]at he;clear HSA t0 t1 t2 t3 u0 u1 u2 u3 HS heb;go_wp2_with fail;refine(HAL.out w7 B7.out).mono ?_;rintro e w8 ⟨rfl,H8⟩;go_wp2;go_ret;exact⟨rfl,H8.out⟩
theorem moved_walk (a:Option Addr) (len cap:Nat) (rs:List Rw) (bb:Nat) (w:World) (h:TArg w a len cap rs) (hbb:bb<=255) (hT:Tb w) :
  Calls Tryz.prog 7 #[.slice a len cap,.int .u8 (bb:Int)] w fun e w'=>e=.returned (.bool true)/\Below w.heap.size w w':=by
 have HAL:Hid (∀ w0,Below w.heap.size w w0->Calls Tryz.prog 14 #[] w0 fun e w'=>e=.returned (.bool true)/\Hid (Below w.heap.size w w')):=fun w0 b=>(alive_any (hT.later b)).mono (fun e w' h=>⟨h.1,b.trans (h.2.mono b.size)⟩)
 have HW:=wide_any a len cap rs w h.1.1 h.1.2.1 h.1.2.2.1 h.1.2.2.2
 cases hw:widR rs with
 | true =>
  rw[hw]at HW;have HW2:Hid (Calls Tryz.prog 20 #[.slice a len cap] w fun e w'=>e=.returned (.bool true)/\Below w.heap.size w w'):=HW;clear HW;clear hw h hT;go_enter Tryz.func7,Tryz.ntmps7;go_wp2_with fail;refine HW2.out.mono ?_;rintro e w1 ⟨rfl,h1⟩;have B7:Hid (Below w.heap.size w w1):=h1;clear h1;go_wp2_with fail;refine(HAL.out w1 B7.out).mono ?_;rintro e w8 ⟨rfl,H8⟩;go_wp2;go_ret;exact⟨rfl,H8.out⟩
 | false =>
  rw[hw]at HW;obtain⟨hg,hm,h300⟩:=good_wid hw (fun r hr=>(h.2 r hr).1);obtain⟨_,h6,h4⟩:=widR_no hw;have hl:len<=300:=by have:=h.1.1.1;omega
  refine moved_go (T:=(paM 7000 rs).1) (q:=(paM 7000 rs).2.1) (z:=(paM 7000 rs).2.2) bb hbb a len cap rs w h.1 hl h4 (fun r hr=>(h.2 r hr).1) HAL (HW.mono (fun e w' g=>⟨g.1,g.2⟩)) (fun w0 hb=>parse_any 7000 a len cap rs w0 (hT.later hb) (h.1.later hb) hg hm) ?_;intro hnn a' cap' w0 hb hra;have hlen:(rs.map (sh bb)).length=rs.length:=List.length_map _;have hsum:Blk.sumT (rs.map (sh bb))=Blk.sumT rs:=by unfold Blk.sumT;rw[List.map_map];rfl
  have hmv:∀ r∈rs,Mv bb r:=fun r hr=>by
   have h1:=hnn r hr;have h2:=h4 r hr;have h3:=hg.txt r hr;unfold Mv;omega
  have hg2:Good (rs.map (sh bb)):=good_of (by omega) (by omega) (fun r hr=>by
   obtain⟨r0,h0,rfl⟩:=List.mem_map.1 hr;have h1:=hnn r0 h0;have h2:=h4 r0 h0;show _<=r0.1+(bb:Int)/\r0.1+(bb:Int)<=_;omega)
  have hp:=parse_any 7000 a' len cap' (rs.map (sh bb)) w0 (hT.later hb) hra.1 hg2 (by rw[msr_sum,hsum,hlen,<-msr_sum];exact hm);rw[paM_sh bb 7000 rs hmv]at hp;exact hp
theorem moved_walk8 (a:Option Addr) (len cap:Nat) (rs:List Rw) (y:Int) (w:World) (h:TArg w a len cap rs) (hy:(Lit.int .u8 y).wf=true) (hT:Tb w) :
  Calls Tryz.prog 7 #[.slice a len cap,.int .u8 y] w fun e w'=>e=.returned (.bool true)/\Below w.heap.size w w':=by
 obtain⟨b0,b1⟩:=bounds_u8 hy;obtain⟨c,rfl⟩:∃ c:Nat,y=(c:Int):=⟨y.toNat,by omega⟩;exact moved_walk a len cap rs c w h (by omega) hT
end Tre
end Go.Proofs.YtoaomiiakibanaaGreatDoor
