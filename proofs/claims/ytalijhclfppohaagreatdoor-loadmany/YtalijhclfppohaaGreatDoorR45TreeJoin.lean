/- . -/
import Derived.Test.YtalijhclfppohaaGreatDoorR35TreeVa
import Derived.Test.YtalijhclfppohaaGreatDoorR42TreeBelA
import Derived.Test.YtalijhclfppohaaGreatDoorR43TreeBelB
import Derived.Test.YtalijhclfppohaaGreatDoorR44TreeKids
import Derived.Test.YtalijhclfppohaaGreatDoorR40TreeIval
import Derived.Test.YtalijhclfppohaaGreatDoorR34TreeKey
set_option linter.unusedSimpArgs false
set_option linter.unusedVariables false
set_option maxRecDepth 100000
namespace Go.Proofs.YtalijhclfppohaaGreatDoor
namespace Tre
open Utf Rws Pln Flw
open Go.RowKit
open Blk (Rw RwAt z3 lo rws joinW trm fld headO hdV)
set_option maxHeartbeats 1000000
theorem TfD.more {d d':Nat} {r:Tf} {w w':World} {e:Ending} (h:TfD d r w e w') (hd:d<=d'):TfD d' r w e w':=by
 obtain⟨v,h1,h2,h3⟩:=h;exact⟨v,h1,TrP.more h2 hd,h3⟩
theorem hds_anc (dp:Bool):∀ (n:Nat) (c:Int) (rs:List Rw),(∀ r∈rs,r.2.1.length<=65536)->∀ h∈(hds dp n c rs).1,h.2.anc.length<=65536
 | 0,_,_,_,h,hh=>by cases hh
 | n+1,c,rs,ht,h,hh=>by
  unfold hds at hh;have hs:=cnt_suffix rs
  cases hc:cnt rs with
  | nil=>rw[hc]at hh;cases hh
  | cons r rest =>
   rw[hc]at hh hs;simp only at hh;split at hh
   ·cases hh
   ·split at hh
    ·cases hh
    ·rcases List.mem_cons.1 hh with rfl | hh
     ·exact Nat.le_trans (CP_anc r.2.1) (ht r (hs.subset (by simp)))
     ·exact hds_anc dp n r.1 rest (fun q hq=>ht q (hs.subset (by simp[hq]))) h hh
theorem below_join (d:Nat) (hd:1<=d) (ar:Int) (c:Int) (x:Ln) (z:Int) (p:Pp) (a:Option Addr) (len cap:Nat) (rs:List Rw) (w:World) (hR:RowsIn w a len cap rs) (hg:Good rs) (hp:p.anc.length<=65536) (val:Rw->List Rw->Tf)
  (HV:∀ r rest,(r::rest) <:+ rs->∀ a' len' cap' w0,RowsA w0 a' len' cap' rest->Below w.heap.size w w0->Calls Tryz.prog 41 #[.int .i64 ar,.agg (rA r),.slice a' len' cap'] w0 fun e w'=>TfD d (val r rest) w0 e w') :
  Calls Tryz.prog 26 #[.int .i64 ar,rV c x z,.agg #[.string (mk p.anc),.int .i64 p.tag],.slice a len cap] w fun e w'=>TfD d (beM val (decide (ar=64)) ((c,x,z),p) rs) w e w':=by
 obtain⟨pa,pt⟩:=p
 have hanc:∀ h∈((c,x,z),(⟨pa,pt⟩:Pp))::(hds (decide (ar=64)) (rs.length+1) c rs).1,h.2.anc.length<=9223372036854775807:=fun h hh=>by
  rcases List.mem_cons.1 hh with rfl | hh
  ·exact Nat.le_trans hp (by decide)
  ·exact Nat.le_trans (hds_anc _ _ _ _ hg.txt h hh) (by decide)
 unfold beM;dsimp only;have hs:=hds_suffix (decide (ar=64)) (rs.length+1) c rs;by_cases hq:(hds (decide (ar=64)) (rs.length+1) c rs).2.2.1=0
 ·rw[if_neg (fun h=>h hq)]
  cases hr:(hds (decide (ar=64)) (rs.length+1) c rs).2.1 with
  | cons r rest =>
   rw[hr]at hs;exact below_some d ar c x z pa pt a len cap rs w hR hg.len hq r rest hr (val r rest) hd hanc (HV r rest hs)
  | nil=>exact below_none d ar c x z pa pt a len cap rs w hR hg.len hq hr hd hanc
 ·rw[if_pos hq];obtain⟨e,rfl⟩:∃ e,d=e+1:=⟨d-1,by omega⟩;exact below_bad e ar c x z pa pt a len cap rs w hR hg.len hq
theorem txt_len {f:Bool} {ch:Int} {ls:List Ln} (h1:(joinW 10 (trm ls)).length<=1000000000) (h2:(fld (trm ls)).length<=1000000000) (h3:ls.length<=1048576):(Blk.txt f ch ls).length<=1002000000:=by
 unfold Blk.txt Blk.body;rw[List.length_append,List.length_replicate]
 have h4:Blk.ed ch (trm ls).length (ls.length-(trm ls).length)<=1+ls.length:=by
  unfold Blk.ed;split<;>split<;>omega
 split<;>omega
theorem meaning_join (d:Nat) (hd:65<=d) (ar:Int) (c:Int) (x:Ln) (z:Int) (l:Ln) (a:Option Addr) (len cap:Nat) (rs:List Rw) (w:World) (hT:Tb w) (hR:RowsA w a len cap rs) (hg:Good rs) (hl:l.length<=65536) (val:Int->Rw->List Rw->Tf)
  (HV:∀ r rest,(r::rest) <:+ rs->∀ a' len' cap' w0,RowsA w0 a' len' cap' rest->Below w.heap.size w w0->Calls Tryz.prog 41 #[.int .i64 ar,.agg (rA r),.slice a' len' cap'] w0 fun e w'=>TfD d (val ar r rest) w0 e w') :
  Calls Tryz.prog 70 #[.int .i64 ar,rV c x z,.string (mk l),.slice a len cap] w fun e w'=>TfD d (meM val ar (c,x,z) l rs) w e w':=by
 have h1:=CP_anc l;have h2:=CP_len ⟨[],0⟩ l;unfold meM mnM;generalize hcp:CP ⟨[],0⟩ l=cp at h1 h2 |-;obtain⟨⟨pa,pt⟩,lf⟩:=cp;dsimp only at h1 h2 |-;cases hno:noth lf
 ·rw[if_neg (by simp)]
  cases hh:headO (note lf)with
  | none =>
   refine meaning_line d ar c x z l lf pa pt a len cap w _ hl (by omega) hcp hno hh (fun w0 hb=> ?_);exact(lineOf_any c x z l a len cap rs w0 hl (hT.later hb) (hR.1.later hb)).mono (fun e w' h=>h.deep hd)
  | some s =>
   obtain⟨fb,fc⟩:=s;refine meaning_block d ar c x z l lf pa pt a len cap w _ hl (by omega) hcp hno fb fc hh (fun w0 hb=> ?_);have hbk:∀ ls,lo none (rws rs c)=.inl ls->(joinW 10 (trm ls)).length<=1000000000/\(fld (trm ls)).length<=1000000000:=hg.bk rs (List.infix_refl _) c;refine(blockOf_any c x z ⟨pa,pt⟩ fb fc a len cap rs w0 (hR.1.later hb) (by have:=hR.len;have:=hg.len;omega) (fun r hr=>(hg.col r hr).2) hbk (fun ls hls=> ?_) (by show pa.length<=_;omega) hR.2).mono (fun e w' h=>h.deep hd);have h3:=hbk ls hls
   have h4:ls.length<=1048576:=by
    have h5:=Blk.lo_len none _ _ hls;have h6:(rws rs c).length<=rs.length:=(List.takeWhile_prefix _).length_le;have:=hg.len;omega
   exact Nat.le_trans (txt_len h3.1 h3.2 h4) (by decide)
 ·rw[if_pos rfl];refine meaning_below d ar c x z l lf pa pt a len cap w _ hl (by omega) hcp hno (fun w0 hb=> ?_);exact below_join d (by omega) ar c x z ⟨pa,pt⟩ a len cap rs w0 (hR.1.later hb) hg (by show pa.length<=_;omega) (val ar) (fun r rest hs a' len' cap' w1 hr1 hb1=>HV r rest hs a' len' cap' w1 hr1 (hb.trans (hb1.mono hb.size)))
theorem inf_tail {r f:Rw} {us rs:List Rw} (h:(r::us) <:+: (f::rs)):us <:+: rs:=by
 obtain⟨A,B,e⟩:=h
 cases A with
 | nil =>
  simp only[List.nil_append,List.cons_append,List.cons.injEq]at e;exact⟨[],B,by simpa using e.2⟩
 | cons q A =>
  simp only[List.cons_append,List.cons.injEq]at e;exact⟨A++[r],B,by rw[<-e.2];simp⟩
def dpt (ar:Int):Nat:=129-ar.toNat
def ValP (n:Nat):Prop:=∀ (ar:Int) (r:Rw) (a:Option Addr) (len cap:Nat) (rs:List Rw) (w:World),0<=ar->ar<=64->r.2.1.length<=65536-> -9223372036854775808<=r.1/\r.1<=9223372036854775807->Tb w->RowsA w a len cap rs->Good rs->msr (r::rs)<n ->
 Calls Tryz.prog 41 #[.int .i64 ar,.agg (rA r),.slice a len cap] w fun e w'=>TfD (dpt ar) (vaM n ar r rs) w e w'
theorem meaning_ih {n:Nat} (ih:ValP n) (ar:Int) (r:Rw) (l:Ln) (a:Option Addr) (len cap:Nat) (rs:List Rw) (w:World) (h0:0<=ar) (h1:ar<=64) (hl:l.length<=65536) (hT:Tb w) (hR:RowsA w a len cap rs) (hg:Good rs) (hm:msr rs<n) :
  Calls Tryz.prog 70 #[.int .i64 ar,.agg (rA r),.string (mk l),.slice a len cap] w fun e w'=>TfD (dpt ar) (meM (vaM n) ar r l rs) w e w':=by
 obtain⟨c,x,z⟩:=r;refine meaning_join (dpt ar) (by unfold dpt;omega) ar c x z l a len cap rs w hT hR hg hl (vaM n) (fun q rest hs a' len' cap' w0 hr hb=> ?_);have hq:q∈rs:=hs.subset (by simp);exact ih ar q a' len' cap' rest w0 h0 h1 (hg.txt q hq) (hg.col q hq) (hT.later hb) hr (hg.sub ((List.suffix_cons q rest).trans hs).isInfix) (Nat.lt_of_le_of_lt (msr_sub hs.isInfix) hm)
theorem itP_two (val:Int->Rw->List Rw->Tf) (ar:Int) (r:Rw) (us:List Rw):(itP val ar r us).1.length<=2:=by
 unfold itP;split
 ·exact Nat.zero_le _
 ·split<;>(show 1<=2;decide)
theorem enP_two (val:Int->Rw->List Rw->Tf) (ar:Int) (r:Rw) (us:List Rw):(enP val ar r us).1.length<=2:=by
 unfold enP;split
 ·exact Nat.zero_le _
 ·split
  ·exact Nat.zero_le _
  ·show 2<=2;decide
theorem pt_of {d:Nat} {ks:List Tr} {y z:Int} {w w':World} {e:Ending} (h:PaD d ks y z w e w') (hk:ks.length<=2):PtD d (ks,y,z) w e w':=by
 have h2:=h;obtain⟨B,cs,h1,_,_,_,h5⟩:=h2;refine⟨fun _=>⟨_,_,_,h1⟩,fun hy=>⟨?_,hk⟩,h5⟩;have hy2:y=0:=hy;subst hy2;exact h
theorem item_ih {n:Nat} (ih:ValP n) (ar:Int) (r:Rw) (a:Option Addr) (len cap:Nat) (us:List Rw) (w:World) (h0:0<=ar) (h1:ar<=64) (hx:r.2.1.length<=65536) (hc: -9223372036854775808<=r.1/\r.1<=9223372036854775807) (hT:Tb w) (hR:RowsA w a len cap us) (hg:Good us) (hm:msr (r::us)<=n) :
  Calls Tryz.prog 67 #[.int .i64 ar,.agg (rA r),.slice a len cap] w fun e w'=>PtD (dpt ar) (itP (vaM n) ar r us) w e w':=by
 obtain⟨c,x,z⟩:=r;dsimp only at hx hc;rw[msr_cons]at hm;dsimp only at hm;unfold itP;dsimp only;cases hi:isIt x
 ·rw[if_pos rfl];refine(item_no ar c x z a len cap (by omega) hi).mono ?_;rintro e w' ⟨rfl,hb⟩;exact⟨fun _=>⟨_,_,_,rfl⟩,fun h=>absurd h (show ¬ (3:Int)=0 by decide),hb⟩
 ·rw[if_neg (by simp)];have hlt:=itR_len hi;have hnl:=itN_le x
  have hme:Hid (∀ w0,Below w.heap.size w w0->Calls Tryz.prog 70 #[.int .i64 ar,.agg #[.int .i64 c,.string (mk x),.int .i64 z],.string (mk (itR x)),.slice a len cap] w0 fun e w'=>TfD (dpt ar) (meM (vaM n) ar (c,x,z) (itR x) us) w0 e w'):=fun w0 hb =>
   meaning_ih ih ar (c,x,z) (itR x) a len cap us w0 h0 h1 (by omega) (hT.later hb) (hR.later hb) hg (by omega)
  have hva:Hid (∀ w0,Below w.heap.size w w0->Calls Tryz.prog 41 #[.int .i64 ar,.agg #[.int .i64 (mvd c (itN x)),.string (mk (itR x)),.int .i64 z],.slice a len cap] w0 fun e w'=>TfD (dpt ar) (vaM n ar (mvd c (itN x),itR x,z) us) w0 e w'):=fun w0 hb =>
   ih ar (mvd c (itN x),itR x,z) a len cap us w0 h0 h1 (by show (itR x).length<=_;omega) (mvd_bd c (itN x) hc.1 hc.2) (hT.later hb) (hR.later hb) hg (by rw[msr_cons];dsimp only;omega)
  cases hi2:isIt (itR x)
  ·cases he2:isEn (itR x)
   ·rw[if_neg (by simp)];exact(item_mean (dpt ar) ar c x z a len cap (by omega) (by omega) hT hi hi2 he2 _ hme).mono (fun e w' h=>pt_of h (by show 1<=2;decide))
   ·rw[if_pos (.inr rfl)];exact(item_val (dpt ar) ar c x z a len cap (by omega) (by omega) hT hi (.inr ⟨hi2,he2⟩) hc.1 hc.2 (by omega) _ hva).mono (fun e w' h=>pt_of h (by show 1<=2;decide))
  ·rw[if_pos (.inl rfl)];exact(item_val (dpt ar) ar c x z a len cap (by omega) (by omega) hT hi (.inl hi2) hc.1 hc.2 (by omega) _ hva).mono (fun e w' h=>pt_of h (by show 1<=2;decide))
theorem entry_ih {n:Nat} (ih:ValP n) (ar:Int) (r:Rw) (a:Option Addr) (len cap:Nat) (us:List Rw) (w:World) (h0:0<=ar) (h1:ar<=64) (hx:r.2.1.length<=65536) (hT:Tb w) (hR:RowsA w a len cap us) (hg:Good us) (hm:msr (r::us)<=n) :
  Calls Tryz.prog 69 #[.int .i64 ar,.agg (rA r),.slice a len cap] w fun e w'=>PtD (dpt ar) (enP (vaM n) ar r us) w e w':=by
 obtain⟨c,x,z⟩:=r;dsimp only at hx;rw[msr_cons]at hm;dsimp only at hm;unfold enP;dsimp only;cases hi:isEn x
 ·rw[if_pos rfl];refine(entry_er 3 ar c x z a len cap (by omega) hT (.inl ⟨hi,rfl⟩)).mono ?_;rintro e w' ⟨rfl,hb⟩;exact⟨fun _=>⟨_,_,_,rfl⟩,fun h=>absurd h (show ¬ (3:Int)=0 by decide),hb⟩
 ·rw[if_neg (by simp)];have hnl:=enR_len x;by_cases hlong:256<(enT x).text.length
  ·rw[if_pos hlong];refine(entry_er 5 ar c x z a len cap (by omega) hT (.inr ⟨hi,hlong,rfl⟩)).mono ?_;rintro e w' ⟨rfl,hb⟩;exact⟨fun _=>⟨_,_,_,rfl⟩,fun h=>absurd h (show ¬ (5:Int)=0 by decide),hb⟩
  ·rw[if_neg hlong];exact(entry_ok (dpt ar) (by unfold dpt;omega) ar c x z a len cap (by omega) hT hi (by omega) _ (fun w0 hb=>meaning_ih ih ar (c,x,z) (enR x) a len cap us w0 h0 h1 (by omega) (hT.later hb) (hR.later hb) hg (by omega))).mono (fun e w' h=>pt_of h (by show 2<=2;decide))
theorem kiM_bad (part:Rw->List Rw->List Tr × Int × Int) (c:Int):∀ (n:Nat) (r:Rw) (more:List Rw) (acc:List Tr),(kiM part c n r more acc).2.1≠0->(kiM part c n r more acc).1=[]
 | 0,_,_,_,h=>absurd rfl h
 | n+1,r,more,acc,h=>by
  rw[kiM_at]at h |-;split
  ·rfl
  ·rename_i h1;rw[if_neg h1]at h;split
   ·rename_i h2;rw[if_pos h2]at h;exact absurd rfl h
   ·rename_i h2;rw[if_neg h2]at h;split
    ·rfl
    ·rename_i h3;rw[if_neg h3]at h;exact kiM_bad part c n _ _ _ h
theorem value_ih:∀ n,ValP n
 | 0=>fun _ _ _ _ _ _ _ _ _ _ _ _ _ _ hm=>absurd hm (Nat.not_lt_zero _)
 | n+1=>fun ar r a len cap rs w h0 h1 hx hc hT hR hg hm=>by
  have ih:=value_ih n;obtain⟨c,x,z⟩:=r;dsimp only at hx hc;rw[vaM];dsimp only;by_cases har:ar=64
  ·rw[if_pos har];subst har;exact value_deep (dpt 64) (by decide) c x z a len cap w
  ·rw[if_neg har];have hd:dpt ar=dpt (ar+1)+1:=by unfold dpt;omega
   have hrow:∀ (r:Rw) (us:List Rw),(r::us) <:+: ((c,x,z)::rs)->r.2.1.length<=65536/\(-9223372036854775808<=r.1/\r.1<=9223372036854775807)/\Good us/\msr (r::us)<=n:=fun r us hi=>by
    refine⟨?_,?_,hg.sub (inf_tail hi),by have:=msr_sub hi;omega⟩
    ·rcases List.mem_cons.1 (hi.subset (show r∈r::us by simp))with rfl | h
     ·exact hx
     ·exact hg.txt r h
    ·rcases List.mem_cons.1 (hi.subset (show r∈r::us by simp))with rfl | h
     ·exact hc
     ·exact hg.col r h
   cases hi:isIt x
   ·rw[if_neg (by simp)];cases he:isEn x
    ·rw[if_neg (by simp)];rw[msr_cons]at hm;exact value_mean (dpt ar) ar c x z a len cap w (by omega) hT har (by omega) h1 hi he _ (fun w0 hb=>meaning_ih ih ar (c,x,z) x a len cap rs w0 h0 h1 hx (hT.later hb) (hR.later hb) hg (by dsimp only at hm;omega))
    ·rw[if_pos rfl,hd];refine value_map (dpt (ar+1)) ar c x z a len cap w (by omega) hT har h0 h1 hi he _ (kiM_bad _ _ _ _ _ _) (fun w0 hb=> ?_);refine kids_any 69 (enters_of Tryz.func69 (by kernel_rfl) rfl) (dpt (ar+1)) (ar+1) (enP (vaM n) (ar+1)) c x z a len cap rs w0 (hR.later hb) hg.len (enP_two _ _) (fun r us a' len' cap' w1 hin hr1 hb1=> ?_);obtain⟨q1,q2,q3,q4⟩:=hrow r us hin;exact entry_ih ih (ar+1) r a' len' cap' us w1 (by omega) (by omega) q1 (hT.later (hb.trans (hb1.mono hb.size))) (hr1.later hb1) q3 q4
   ·rw[if_pos rfl,hd];refine value_seq (dpt (ar+1)) ar c x z a len cap w (by omega) hT har h0 h1 hi _ (kiM_bad _ _ _ _ _ _) (fun w0 hb=> ?_);refine kids_any 67 (enters_of Tryz.func67 (by kernel_rfl) rfl) (dpt (ar+1)) (ar+1) (itP (vaM n) (ar+1)) c x z a len cap rs w0 (hR.later hb) hg.len (itP_two _ _) (fun r us a' len' cap' w1 hin hr1 hb1=> ?_);obtain⟨q1,q2,q3,q4⟩:=hrow r us hin;exact item_ih ih (ar+1) r a' len' cap' us w1 (by omega) (by omega) q1 q2 (hT.later (hb.trans (hb1.mono hb.size))) (hr1.later hb1) q3 q4
end Tre
end Go.Proofs.YtalijhclfppohaaGreatDoor
