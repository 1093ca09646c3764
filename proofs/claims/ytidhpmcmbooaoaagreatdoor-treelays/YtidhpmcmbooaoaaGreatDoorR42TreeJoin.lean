/- . -/
import Derived.Test.YtidhpmcmbooaoaaGreatDoorR38FlowAllow
import Derived.Test.YtidhpmcmbooaoaaGreatDoorR41TreeIval
import Derived.Test.YtidhpmcmbooaoaaGreatDoorR37FlowFine
import Derived.Test.YtidhpmcmbooaoaaGreatDoorR02FlowModel2
import Derived.Test.YtidhpmcmbooaoaaGreatDoorR22QuoteEsc
set_option linter.unusedSimpArgs false
set_option linter.unusedVariables false
set_option maxRecDepth 100000
namespace Go.Proofs.YtidhpmcmbooaoaaGreatDoor
namespace Tre
open Utf Rws Pln Flw
open Go.RowKit
open Blk (Rw RwAt z3 lo rws joinW trm fld headO hdV)
set_option maxHeartbeats 1000000
theorem TfD.more {d d':Nat} {r:Tf} {w w':World} {e:Ending} (h:TfD d r w e w') (hd:d<=d'):TfD d' r w e w':=by
 obtain⟨v,h1,h2,h3⟩:=h;exact⟨v,h1,TrP.more h2 hd,h3⟩
theorem hds_anc (dp:Bool):∀ (n:Nat) (c:Int) (rs:List Rw),(∀ r∈rs,r.2.1.length<=65536)->∀ h∈(hds dp n c rs).1,h.2.anc.length<=65536
 | 0,_,_,_,h,hh=>by cases hh
 | n+1,c,rs,ht,h,hh=>by
  unfold hds at hh;have hs:=cnt_suffix rs
  cases hc:cnt rs with
  | nil=>rw[hc]at hh;cases hh
  | cons r rest =>
   rw[hc]at hh hs;simp only at hh;split at hh
   ·cases hh
   ·split at hh
    ·cases hh
    ·rcases List.mem_cons.1 hh with rfl | hh
     ·exact Nat.le_trans (CP_anc r.2.1) (ht r (hs.subset (by simp)))
     ·exact hds_anc dp n r.1 rest (fun q hq=>ht q (hs.subset (by simp[hq]))) h hh
theorem below_join (d:Nat) (hd:1<=d) (ar:Int) (c:Int) (x:Ln) (z:Int) (p:Pp) (a:Option Addr) (len cap:Nat) (rs:List Rw) (w:World) (hR:RowsIn w a len cap rs) (hg:Good rs) (hp:p.anc.length<=65536) (val:Rw->List Rw->Tf)
  (HV:∀ r rest,(r::rest) <:+ rs->∀ a' len' cap' w0,RowsA w0 a' len' cap' rest->Below w.heap.size w w0->Calls Tryz.prog 19 #[.int .i64 ar,.agg (rA r),.slice a' len' cap'] w0 fun e w'=>TfD d (val r rest) w0 e w') :
  Calls Tryz.prog 14 #[.int .i64 ar,rV c x z,.agg #[.string (mk p.anc),.int .i64 p.tag],.slice a len cap] w fun e w'=>TfD d (beM val (decide (ar=64)) ((c,x,z),p) rs) w e w':=by
 obtain⟨pa,pt⟩:=p
 have hanc:∀ h∈((c,x,z),(⟨pa,pt⟩:Pp))::(hds (decide (ar=64)) (rs.length+1) c rs).1,h.2.anc.length<=9223372036854775807:=fun h hh=>by
  rcases List.mem_cons.1 hh with rfl | hh
  ·exact Nat.le_trans hp (by decide)
  ·exact Nat.le_trans (hds_anc _ _ _ _ hg.txt h hh) (by decide)
 unfold beM;dsimp only;have hs:=hds_suffix (decide (ar=64)) (rs.length+1) c rs;by_cases hq:(hds (decide (ar=64)) (rs.length+1) c rs).2.2.1=0
 ·rw[if_neg (fun h=>h hq)]
  cases hr:(hds (decide (ar=64)) (rs.length+1) c rs).2.1 with
  | cons r rest =>
   rw[hr]at hs;exact below_some d ar c x z pa pt a len cap rs w hR hg.len hq r rest hr (val r rest) hd hanc (HV r rest hs)
  | nil=>exact below_none d ar c x z pa pt a len cap rs w hR hg.len hq hr hd hanc
 ·rw[if_pos hq];obtain⟨e,rfl⟩:∃ e,d=e+1:=⟨d-1,by omega⟩;exact below_bad e ar c x z pa pt a len cap rs w hR hg.len hq
theorem txt_len {f:Bool} {ch:Int} {ls:List Ln} (h1:(joinW 10 (trm ls)).length<=1000000000) (h2:(fld (trm ls)).length<=1000000000) (h3:ls.length<=1048576):(Blk.txt f ch ls).length<=1002000000:=by
 unfold Blk.txt Blk.body;rw[List.length_append,List.length_replicate]
 have h4:Blk.ed ch (trm ls).length (ls.length-(trm ls).length)<=1+ls.length:=by
  unfold Blk.ed;split<;>split<;>omega
 split<;>omega
theorem meaning_join (d:Nat) (hd:65<=d) (ar:Int) (c:Int) (x:Ln) (z:Int) (l:Ln) (a:Option Addr) (len cap:Nat) (rs:List Rw) (w:World) (hT:Tb w) (hR:RowsA w a len cap rs) (hg:Good rs) (hl:l.length<=65536) (val:Int->Rw->List Rw->Tf)
  (HV:∀ r rest,(r::rest) <:+ rs->∀ a' len' cap' w0,RowsA w0 a' len' cap' rest->Below w.heap.size w w0->Calls Tryz.prog 19 #[.int .i64 ar,.agg (rA r),.slice a' len' cap'] w0 fun e w'=>TfD d (val ar r rest) w0 e w') :
  Calls Tryz.prog 39 #[.int .i64 ar,rV c x z,.string (mk l),.slice a len cap] w fun e w'=>TfD d (meM val ar (c,x,z) l rs) w e w':=by
 have h1:=CP_anc l;have h2:=CP_len ⟨[],0⟩ l;unfold meM mnM;generalize hcp:CP ⟨[],0⟩ l=cp at h1 h2 |-;obtain⟨⟨pa,pt⟩,lf⟩:=cp;dsimp only at h1 h2 |-;cases hno:noth lf
 ·rw[if_neg (by simp)]
  cases hh:headO (note lf)with
  | none =>
   refine meaning_line d ar c x z l lf pa pt a len cap w _ hl (by omega) hcp hno hh (fun w0 hb=> ?_);exact(lineOf_any c x z l a len cap rs w0 hl (hT.later hb) (hR.1.later hb)).mono (fun e w' h=>h.deep hd)
  | some s =>
   obtain⟨fb,fc⟩:=s;refine meaning_block d ar c x z l lf pa pt a len cap w _ hl (by omega) hcp hno fb fc hh (fun w0 hb=> ?_);have hbk:∀ ls,lo none (rws rs c)=.inl ls->(joinW 10 (trm ls)).length<=1000000000/\(fld (trm ls)).length<=1000000000:=hg.bk rs (List.infix_refl _) c;refine(blockOf_any c x z ⟨pa,pt⟩ fb fc a len cap rs w0 (hR.1.later hb) (by have:=hR.len;have:=hg.len;omega) (fun r hr=>(hg.col r hr).2) hbk (fun ls hls=> ?_) (by show pa.length<=_;omega) hR.2).mono (fun e w' h=>h.deep hd);have h3:=hbk ls hls
   have h4:ls.length<=1048576:=by
    have h5:=Blk.lo_len none _ _ hls;have h6:(rws rs c).length<=rs.length:=(List.takeWhile_prefix _).length_le;have:=hg.len;omega
   exact Nat.le_trans (txt_len h3.1 h3.2 h4) (by decide)
 ·rw[if_pos rfl];refine meaning_below d ar c x z l lf pa pt a len cap w _ hl (by omega) hcp hno (fun w0 hb=> ?_);exact below_join d (by omega) ar c x z ⟨pa,pt⟩ a len cap rs w0 (hR.1.later hb) hg (by show pa.length<=_;omega) (val ar) (fun r rest hs a' len' cap' w1 hr1 hb1=>HV r rest hs a' len' cap' w1 hr1 (hb.trans (hb1.mono hb.size)))
theorem inf_tail {r f:Rw} {us rs:List Rw} (h:(r::us) <:+: (f::rs)):us <:+: rs:=by
 obtain⟨A,B,e⟩:=h
 cases A with
 | nil =>
  simp only[List.nil_append,List.cons_append,List.cons.injEq]at e;exact⟨[],B,by simpa using e.2⟩
 | cons q A =>
  simp only[List.cons_append,List.cons.injEq]at e;exact⟨A++[r],B,by rw[<-e.2];simp⟩
def dpt (ar:Int):Nat:=129-ar.toNat
def ValP (n:Nat):Prop:=∀ (ar:Int) (r:Rw) (a:Option Addr) (len cap:Nat) (rs:List Rw) (w:World),0<=ar->ar<=64->r.2.1.length<=65536-> -9223372036854775808<=r.1/\r.1<=9223372036854775807->Tb w->RowsA w a len cap rs->Good rs->msr (r::rs)<n ->
 Calls Tryz.prog 19 #[.int .i64 ar,.agg (rA r),.slice a len cap] w fun e w'=>TfD (dpt ar) (vaM n ar r rs) w e w'
theorem meaning_ih {n:Nat} (ih:ValP n) (ar:Int) (r:Rw) (l:Ln) (a:Option Addr) (len cap:Nat) (rs:List Rw) (w:World) (h0:0<=ar) (h1:ar<=64) (hl:l.length<=65536) (hT:Tb w) (hR:RowsA w a len cap rs) (hg:Good rs) (hm:msr rs<n) :
  Calls Tryz.prog 39 #[.int .i64 ar,.agg (rA r),.string (mk l),.slice a len cap] w fun e w'=>TfD (dpt ar) (meM (vaM n) ar r l rs) w e w':=by
 obtain⟨c,x,z⟩:=r;refine meaning_join (dpt ar) (by unfold dpt;omega) ar c x z l a len cap rs w hT hR hg hl (vaM n) (fun q rest hs a' len' cap' w0 hr hb=> ?_);have hq:q∈rs:=hs.subset (by simp);exact ih ar q a' len' cap' rest w0 h0 h1 (hg.txt q hq) (hg.col q hq) (hT.later hb) hr (hg.sub ((List.suffix_cons q rest).trans hs).isInfix) (Nat.lt_of_le_of_lt (msr_sub hs.isInfix) hm)
theorem itP_two (val:Int->Rw->List Rw->Tf) (ar:Int) (r:Rw) (us:List Rw):(itP val ar r us).1.length<=2:=by
 unfold itP;split
 ·exact Nat.zero_le _
 ·split<;>(show 1<=2;decide)
theorem enP_two (val:Int->Rw->List Rw->Tf) (ar:Int) (r:Rw) (us:List Rw):(enP val ar r us).1.length<=2:=by
 unfold enP;split
 ·exact Nat.zero_le _
 ·split
  ·exact Nat.zero_le _
  ·show 2<=2;decide
theorem pt_of {d:Nat} {ks:List Tr} {y z:Int} {w w':World} {e:Ending} (h:PaD d ks y z w e w') (hk:ks.length<=2):PtD d (ks,y,z) w e w':=by
 have h2:=h;obtain⟨B,cs,h1,_,_,_,h5⟩:=h2;refine⟨fun _=>⟨_,_,_,h1⟩,fun hy=>⟨?_,hk⟩,h5⟩;have hy2:y=0:=hy;subst hy2;exact h
theorem item_ih {n:Nat} (ih:ValP n) (ar:Int) (r:Rw) (a:Option Addr) (len cap:Nat) (us:List Rw) (w:World) (h0:0<=ar) (h1:ar<=64) (hx:r.2.1.length<=65536) (hc: -9223372036854775808<=r.1/\r.1<=9223372036854775807) (hT:Tb w) (hR:RowsA w a len cap us) (hg:Good us) (hm:msr (r::us)<=n) :
  Calls Tryz.prog 36 #[.int .i64 ar,.agg (rA r),.slice a len cap] w fun e w'=>PtD (dpt ar) (itP (vaM n) ar r us) w e w':=by
 obtain⟨c,x,z⟩:=r;dsimp only at hx hc;rw[msr_cons]at hm;dsimp only at hm;unfold itP;dsimp only;cases hi:isIt x
 ·rw[if_pos rfl];refine(item_no ar c x z a len cap (by omega) hi).mono ?_;rintro e w' ⟨rfl,hb⟩;exact⟨fun _=>⟨_,_,_,rfl⟩,fun h=>absurd h (show ¬ (3:Int)=0 by decide),hb⟩
 ·rw[if_neg (by simp)];have hlt:=itR_len hi;have hnl:=itN_le x
  have hme:Hid (∀ w0,Below w.heap.size w w0->Calls Tryz.prog 39 #[.int .i64 ar,.agg #[.int .i64 c,.string (mk x),.int .i64 z],.string (mk (itR x)),.slice a len cap] w0 fun e w'=>TfD (dpt ar) (meM (vaM n) ar (c,x,z) (itR x) us) w0 e w'):=fun w0 hb =>
   meaning_ih ih ar (c,x,z) (itR x) a len cap us w0 h0 h1 (by omega) (hT.later hb) (hR.later hb) hg (by omega)
  have hva:Hid (∀ w0,Below w.heap.size w w0->Calls Tryz.prog 19 #[.int .i64 ar,.agg #[.int .i64 (mvd c (itN x)),.string (mk (itR x)),.int .i64 z],.slice a len cap] w0 fun e w'=>TfD (dpt ar) (vaM n ar (mvd c (itN x),itR x,z) us) w0 e w'):=fun w0 hb =>
   ih ar (mvd c (itN x),itR x,z) a len cap us w0 h0 h1 (by show (itR x).length<=_;omega) (mvd_bd c (itN x) hc.1 hc.2) (hT.later hb) (hR.later hb) hg (by rw[msr_cons];dsimp only;omega)
  cases hi2:isIt (itR x)
  ·cases he2:isEn (itR x)
   ·rw[if_neg (by simp)];exact(item_mean (dpt ar) ar c x z a len cap (by omega) (by omega) hT hi hi2 he2 _ hme).mono (fun e w' h=>pt_of h (by show 1<=2;decide))
   ·rw[if_pos (.inr rfl)];exact(item_val (dpt ar) ar c x z a len cap (by omega) (by omega) hT hi (.inr ⟨hi2,he2⟩) hc.1 hc.2 (by omega) _ hva).mono (fun e w' h=>pt_of h (by show 1<=2;decide))
  ·rw[if_pos (.inl rfl)];exact(item_val (dpt ar) ar c x z a len cap (by omega) (by omega) hT hi (.inl hi2) hc.1 hc.2 (by omega) _ hva).mono (fun e w' h=>pt_of h (by show 1<=2;decide))
theorem entry_ih {n:Nat} (ih:ValP n) (ar:Int) (r:Rw) (a:Option Addr) (len cap:Nat) (us:List Rw) (w:World) (h0:0<=ar) (h1:ar<=64) (hx:r.2.1.length<=65536) (hT:Tb w) (hR:RowsA w a len cap us) (hg:Good us) (hm:msr (r::us)<=n) :
  Calls Tryz.prog 38 #[.int .i64 ar,.agg (rA r),.slice a len cap] w fun e w'=>PtD (dpt ar) (enP (vaM n) ar r us) w e w':=by
 obtain⟨c,x,z⟩:=r;dsimp only at hx;rw[msr_cons]at hm;dsimp only at hm;unfold enP;dsimp only;cases hi:isEn x
 ·rw[if_pos rfl];refine(entry_er 3 ar c x z a len cap (by omega) hT (.inl ⟨hi,rfl⟩)).mono ?_;rintro e w' ⟨rfl,hb⟩;exact⟨fun _=>⟨_,_,_,rfl⟩,fun h=>absurd h (show ¬ (3:Int)=0 by decide),hb⟩
 ·rw[if_neg (by simp)];have hnl:=enR_len x;by_cases hlong:256<(enT x).text.length
  ·rw[if_pos hlong];refine(entry_er 5 ar c x z a len cap (by omega) hT (.inr ⟨hi,hlong,rfl⟩)).mono ?_;rintro e w' ⟨rfl,hb⟩;exact⟨fun _=>⟨_,_,_,rfl⟩,fun h=>absurd h (show ¬ (5:Int)=0 by decide),hb⟩
  ·rw[if_neg hlong];exact(entry_ok (dpt ar) (by unfold dpt;omega) ar c x z a len cap (by omega) hT hi (by omega) _ (fun w0 hb=>meaning_ih ih ar (c,x,z) (enR x) a len cap us w0 h0 h1 (by omega) (hT.later hb) (hR.later hb) hg (by omega))).mono (fun e w' h=>pt_of h (by show 2<=2;decide))
theorem kiM_bad (part:Rw->List Rw->List Tr × Int × Int) (c:Int):∀ (n:Nat) (r:Rw) (more:List Rw) (acc:List Tr),(kiM part c n r more acc).2.1≠0->(kiM part c n r more acc).1=[]
 | 0,_,_,_,h=>absurd rfl h
 | n+1,r,more,acc,h=>by
  rw[kiM_at]at h |-;split
  ·rfl
  ·rename_i h1;rw[if_neg h1]at h;split
   ·rename_i h2;rw[if_pos h2]at h;exact absurd rfl h
   ·rename_i h2;rw[if_neg h2]at h;split
    ·rfl
    ·rename_i h3;rw[if_neg h3]at h;exact kiM_bad part c n _ _ _ h
theorem value_ih:∀ n,ValP n
 | 0=>fun _ _ _ _ _ _ _ _ _ _ _ _ _ _ hm=>absurd hm (Nat.not_lt_zero _)
 | n+1=>fun ar r a len cap rs w h0 h1 hx hc hT hR hg hm=>by
  have ih:=value_ih n;obtain⟨c,x,z⟩:=r;dsimp only at hx hc;rw[vaM];dsimp only;by_cases har:ar=64
  ·rw[if_pos har];subst har;exact value_deep (dpt 64) (by decide) c x z a len cap w
  ·rw[if_neg har];have hd:dpt ar=dpt (ar+1)+1:=by unfold dpt;omega
   have hrow:∀ (r:Rw) (us:List Rw),(r::us) <:+: ((c,x,z)::rs)->r.2.1.length<=65536/\(-9223372036854775808<=r.1/\r.1<=9223372036854775807)/\Good us/\msr (r::us)<=n:=fun r us hi=>by
    refine⟨?_,?_,hg.sub (inf_tail hi),by have:=msr_sub hi;omega⟩
    ·rcases List.mem_cons.1 (hi.subset (show r∈r::us by simp))with rfl | h
     ·exact hx
     ·exact hg.txt r h
    ·rcases List.mem_cons.1 (hi.subset (show r∈r::us by simp))with rfl | h
     ·exact hc
     ·exact hg.col r h
   cases hi:isIt x
   ·rw[if_neg (by simp)];cases he:isEn x
    ·rw[if_neg (by simp)];rw[msr_cons]at hm;exact value_mean (dpt ar) ar c x z a len cap w (by omega) hT har (by omega) h1 hi he _ (fun w0 hb=>meaning_ih ih ar (c,x,z) x a len cap rs w0 h0 h1 hx (hT.later hb) (hR.later hb) hg (by dsimp only at hm;omega))
    ·rw[if_pos rfl,hd];refine value_map (dpt (ar+1)) ar c x z a len cap w (by omega) hT har h0 h1 hi he _ (kiM_bad _ _ _ _ _ _) (fun w0 hb=> ?_);refine kids_any 38 (enters_of Tryz.func38 (by kernel_rfl) rfl) (dpt (ar+1)) (ar+1) (enP (vaM n) (ar+1)) c x z a len cap rs w0 (hR.later hb) hg.len (enP_two _ _) (fun r us a' len' cap' w1 hin hr1 hb1=> ?_);obtain⟨q1,q2,q3,q4⟩:=hrow r us hin;exact entry_ih ih (ar+1) r a' len' cap' us w1 (by omega) (by omega) q1 (hT.later (hb.trans (hb1.mono hb.size))) (hr1.later hb1) q3 q4
   ·rw[if_pos rfl,hd];refine value_seq (dpt (ar+1)) ar c x z a len cap w (by omega) hT har h0 h1 hi _ (kiM_bad _ _ _ _ _ _) (fun w0 hb=> ?_);refine kids_any 36 (enters_of Tryz.func36 (by kernel_rfl) rfl) (dpt (ar+1)) (ar+1) (itP (vaM n) (ar+1)) c x z a len cap rs w0 (hR.later hb) hg.len (itP_two _ _) (fun r us a' len' cap' w1 hin hr1 hb1=> ?_);obtain⟨q1,q2,q3,q4⟩:=hrow r us hin;exact item_ih ih (ar+1) r a' len' cap' us w1 (by omega) (by omega) q1 q2 (hT.later (hb.trans (hb1.mono hb.size))) (hr1.later hb1) q3 q4
end Tre
namespace Flw
open Utf Rws Pln
open Go.RowKit
theorem rdF_short (q:UInt8):∀ (f:Nat) (l:Ln) (at_:Nat) (out:Ln),out.length<=at_->(Quo.rdF q f l at_ out).2.2.1=0->(Quo.rdF q f l at_ out).1.length<=(Quo.rdF q f l at_ out).2.1
 | 0,l,at_,out,ho,h=>by simp[Quo.rdF]at h
 | f+1,l,at_,out,ho,h=>by
  rw[Quo.rdF]at h |-;by_cases h1:(Quo.stp q l).1=0
  ·rw[if_pos h1];show out.length<=at_+1;omega
  rw[if_neg h1]at h |-;by_cases h2:(Quo.stp q l).1=1
  ·rw[if_pos h2]at h |-;exact rdF_short q f _ _ _ (by have:=Quo.stp_le h2;rw[List.length_append];omega) h
  rw[if_neg h2]at h;by_cases h4:(Quo.stp q l).1=4
  ·rw[if_pos h4]at h;cases h
  ·rw[if_neg h4]at h;exact absurd h h1
theorem rd_short (l:Ln) (h:(Quo.rd l).2.2.1=0):(Quo.rd l).1.length<=l.length:=by
 have h2:=(Quo.rd_means l h).2.2;refine Nat.le_trans ?_ h2;unfold Quo.rd at h |-;by_cases c1:l=[]
 ·rw[if_pos c1]at h;cases h
 rw[if_neg c1]at h |-;by_cases c2:l.getD 0 0=39\/l.getD 0 0=34
 ·rw[if_pos c2]at h |-;exact rdF_short _ _ _ _ _ (by simp) h
 ·rw[if_neg c2]at h;cases h
theorem quoted_short {l:Ln} {x:Ln × Ln} (h:quoted l=.ok x):x.1.length<=l.length:=by
 unfold quoted at h;obtain⟨hn,e⟩:=ite_inv h;cases e;exact rd_short l (by omega)
theorem leaf_short (k:Int) (s a:Ln):(leaf k s a).text.length<=s.length/\(leaf k s a).anc=a/\(leaf k s a).kids=[]:=by
 unfold leaf;refine⟨?_,rfl,rfl⟩;show (if k=1 then []else s).length<=_;split
 ·exact Nat.zero_le _
 ·exact Nat.le_refl _
theorem fits_short {s:Ln} {q:Bool} {p:Pr} {t:Tr} (h:fits s q p=.ok t):t.text.length<=s.length/\t.anc=p.anc/\t.kids=[]:=by
 unfold fits at h;by_cases c4:p.tag=4
 ·rw[if_pos c4]at h;cases h;exact leaf_short _ _ _
 ·rw[if_neg c4]at h;by_cases c0:p.tag≠0
  ·rw[if_pos c0]at h;obtain⟨e,h⟩:=ite_inv h;cases h;exact leaf_short _ _ _
  ·rw[if_neg c0]at h;cases h;exact leaf_short _ _ _
theorem key_short {l:Ln} {x:Tr × Ln} (h:key l=.ok x):x.1.text.length<=l.length/\x.1.anc=[]/\x.1.kids=[]:=by
 unfold key at h;by_cases c:hd l=39\/hd l=34
 ·rw[if_pos c]at h;obtain⟨y,hy,h⟩:=bnd_inv h;cases h;exact⟨quoted_short hy,rfl,rfl⟩
 ·rw[if_neg c]at h;obtain⟨y,hy,h⟩:=bnd_inv h;obtain⟨hn,h⟩:=ite_inv h;cases h;have hq:=plain_inv hy;have:=leaf_short (knd y.1) y.1 [];exact⟨by have:=this.1;show (leaf (knd y.1) y.1 []).text.length<=_;omega,rfl,rfl⟩
theorem prp_short (f:Bool) (B:Nat):∀ (n:Nat) (p:Pr) (l:Ln) (x:Pr × Ln),p.anc.length<=B->l.length<=B->prp f n p l=.ok x->x.1.anc.length<=B
 | 0,p,l,x,hp,hl,h=>by cases h;exact hp
 | n+1,p,l,x,hp,hl,h=>by
  unfold prp at h;by_cases c1:hd l=38/\p.anc=[]
  ·rw[if_pos c1]at h;obtain⟨y,hy,h⟩:=bnd_inv h;obtain⟨r,hr,h⟩:=bnd_inv h;have h1:=nam_inv hy;have h2:=gap_inv hr;have h4:(l.drop 1).length<=l.length:=by rw[List.length_drop];omega
   exact prp_short f B n _ r x (show y.1.length<=B by omega) (by omega) h
  ·rw[if_neg c1]at h;by_cases c2:hd l=33/\hd (l.drop 1)=33/\p.tag=0
   ·rw[if_pos c2]at h;obtain⟨y,hy,h⟩:=bnd_inv h;obtain⟨r,hr,h⟩:=bnd_inv h;have h1:=tag_inv hy;have h2:=gap_inv hr;have h4:(l.drop 2).length<=l.length:=by rw[List.length_drop];omega
    exact prp_short f B n ⟨p.anc,y.1,l.length,true⟩ r x hp (by omega) h
   ·rw[if_neg c2]at h;cases h;exact hp
theorem brief_leaf2 (d:Nat) {t:Tr} (h1:t.text.length<=65536) (h2:t.anc.length<=65536) (h3:t.kids=[]):brief (d+1) t:=⟨h1,h2,fun i hi=>by rw[h3]at hi;exact absurd hi (Nat.not_lt_zero _)⟩
theorem part_short {v:Ln->Ot (Tr × Ln)} {d:Nat} (hv:∀ l x,l.length<=65536->v l=.ok x->brief (d+1) x.1) {map:Bool} {l:Ln} {x:List Tr × Ln} (hl:l.length<=65536) (h:part v map l=.ok x):∀ k∈x.1,brief (d+1) k:=by
 unfold part at h;cases map
 ·rw[if_neg (by decide)]at h;obtain⟨_,h⟩:=ite_inv h;obtain⟨y,hy,h⟩:=bnd_inv h;cases h;intro k hk;simp at hk;rw[hk];exact hv _ _ hl hy
 ·rw[if_pos rfl]at h;obtain⟨k,hk,h⟩:=bnd_inv h;obtain⟨hc,h⟩:=ite_inv h;obtain⟨y,hy,h⟩:=bnd_inv h;cases h;have h1:=key_short hk;have h2:=key_inv hk;have h3:=gaps_len k.2;have h4:((gaps k.2).drop 1).length<=(gaps k.2).length:=by rw[List.length_drop];omega
  intro z hz;simp at hz;rcases hz with rfl | rfl
  ·exact brief_leaf2 d (by omega) (by rw[h1.2.1];simp) h1.2.2
  ·exact hv _ _ (by omega) hy
theorem lst_short {v:Ln->Ot (Tr × Ln)} {d:Nat} (hi:∀ l x,v l=.ok x->rgt d x.1=true/\x.2.length+cntT d x.1<=l.length+1) (hv:∀ l x,l.length<=65536->v l=.ok x->brief (d+1) x.1) (map:Bool) :
  ∀ (n:Nat) (l:Ln) (x:List Tr × Ln),l.length<=65536->lst v map n l=.ok x->∀ k∈x.1,brief (d+1) k
 | 0,l,x,hl,h=>by cases h
 | n+1,l,x,hl,h=>by
  have hg:=gaps_len l;unfold lst at h;by_cases c:hd (gaps l)=endOf map
  ·rw[if_pos c]at h;cases h;intro k hk;cases hk
  ·rw[if_neg c]at h;obtain⟨y,hy,h⟩:=bnd_inv h;have hp:=part_short hv (by omega) hy;have hq:=part_inv hi hy;have hg2:=gaps_len y.2;by_cases c2:hd (gaps y.2)=44
   ·rw[if_pos c2]at h;obtain⟨z,hz,h⟩:=bnd_inv h;cases h;have h4:=hd_ne (l:=gaps y.2) (by rw[c2];decide);have ih:=lst_short hi hv map n _ _ (by have:=hq.2.1;omega) hz;intro k hk;simp at hk;rcases hk with hk | hk
    ·exact hp k hk
    ·exact ih k hk
   ·rw[if_neg c2]at h;by_cases c3:hd (gaps y.2)=endOf map
    ·rw[if_pos c3]at h;cases h;exact hp
    ·rw[if_neg c3]at h;cases h
theorem body_short {inner:Option (Ln->Ot (Tr × Ln))} {f:Bool} {p:Pr} {l:Ln} {x:Tr × Ln} (hl:l.length<=65536) (hp:p.anc.length<=65536) (h:body inner f p l=.ok x) :
  (x.1.text.length<=65536/\x.1.anc.length<=65536/\x.1.kids=[]) \/
  (∃ v map y,inner=some v/\lst v map l.length (l.drop 1)=.ok y/\x=(⟨kindOf map,[],p.anc,y.1⟩,y.2)):=by
 unfold body at h;by_cases c1:hd l=42
 ·rw[if_pos c1]at h;obtain⟨_,h⟩:=ite_inv h;obtain⟨y,hy,h⟩:=bnd_inv h;cases h;have hn:=nam_inv hy;have h4:=hd_ne (l:=l) (by rw[c1];decide);left;exact⟨by simp,by show y.1.length<=_;omega,rfl⟩
 ·rw[if_neg c1]at h;by_cases c2:hd l=91\/hd l=123
  ·rw[if_pos c2]at h
   cases inner with
   | none=>cases h
   | some v =>
    obtain⟨y,hy,h⟩:=bnd_inv h;obtain⟨_,h⟩:=ite_inv h;cases h;right;exact⟨v,_,y,rfl,hy,rfl⟩
  ·rw[if_neg c2]at h;left;by_cases c3:hd l=39\/hd l=34
   ·rw[if_pos c3]at h;obtain⟨y,hy,h⟩:=bnd_inv h;obtain⟨t,ht,h⟩:=bnd_inv h;cases h;have hq:=quoted_short hy;have hf:=fits_short ht;exact⟨by show t.text.length<=_;omega,by show t.anc.length<=_;rw[hf.2.1];exact hp,hf.2.2⟩
   ·rw[if_neg c3]at h;obtain⟨y,hy,h⟩:=bnd_inv h;obtain⟨t,ht,h⟩:=bnd_inv h;cases h;have hq:=plain_inv hy;have hf:=fits_short ht;exact⟨by show t.text.length<=_;omega,by show t.anc.length<=_;rw[hf.2.1];exact hp,hf.2.2⟩
theorem getD_mem {xs:List Tr} {i:Nat} (h:i<xs.length):xs.getD i tr0∈xs:=by
 rw[List.getD_eq_getElem?_getD,List.getElem?_eq_getElem h];exact List.getElem_mem h
theorem val_short:∀ (d:Nat) (f:Bool) (l:Ln) (x:Tr × Ln),l.length<=65536->val d f l=.ok x->brief (d+1) x.1
 | 0,f,l,x,hl,h=>by
  obtain⟨y,hy,h⟩:=bnd_inv (show bnd _ _=_ from h);have h1:=prp_inv f 3 p0 _ _ p0_ok hy;have h2:=gaps_len l;have h3:=prp_short f 65536 3 p0 _ _ (by decide) (by omega) hy;rcases body_short (by omega) h3 h with ⟨a,b,c⟩ | ⟨v,map,z,hv,_⟩
  ·exact brief_leaf2 0 a b c
  ·cases hv
 | d+1,f,l,x,hl,h=>by
  obtain⟨y,hy,h⟩:=bnd_inv (show bnd _ _=_ from h);have h1:=prp_inv f 3 p0 _ _ p0_ok hy;have h2:=gaps_len l;have h3:=prp_short f 65536 3 p0 _ _ (by decide) (by omega) hy;rcases body_short (by omega) h3 h with ⟨a,b,c⟩ | ⟨v,map,z,hv,hz,rfl⟩
  ·exact brief_leaf2 (d+1) a b c
  ·cases hv;have h4:(y.2.drop 1).length<=y.2.length:=by rw[List.length_drop];omega
   have:=lst_short (fun l x hx=>val_inv d true l x hx) (fun l x hl hx=>val_short d true l x hl hx) map _ _ _ (by omega) hz;exact⟨by show ([]:Ln).length<=_;simp,h3,fun i hi=>this _ (getD_mem hi)⟩
theorem brief_of {w:World}:∀ {d m:Nat} {v:Value} {t:Tr},TrV w d v t->fineT m t->brief d t
 | 0,m,v,t,h,hf=>h.elim
 | d+1,0,v,t,h,hf=>hf.elim
 | d+1,m+1,v,t,h,hf=>by
  obtain⟨ad,len,cap,rfl,hl,hc,hm,hz,hk⟩:=h;refine⟨by have:=hf.1;omega,by have:=hf.2.1;omega,fun i hi=> ?_⟩;obtain⟨b,off,_,_,hcell⟩:=hk (by omega);obtain⟨c0,c1,c2,c3,_,_,_,_,ht⟩:=hcell i (by omega);exact brief_of ht (hf.2.2 i hi)
/-! ### how long a tree's text is -/
end Flw
namespace Tre
open Utf Rws Pln Flw
open Go.RowKit
open Blk (Rw RwAt z3 lo rws joinW trm fld headO hdV)
set_option maxHeartbeats 1000000
abbrev brT (d:Nat) (t:Tr):Prop:=bri 2147483648 d t
theorem brT_leaf {d:Nat} (hd:1<=d) {t:Tr} (h1:t.text.length<=2147483648) (h2:t.anc.length<=2147483648) (h3:t.kids=[]):brT d t:=by
 obtain⟨e,rfl⟩:∃ e,d=e+1:=⟨d-1,by omega⟩;exact⟨h1,h2,fun i hi=>by rw[h3]at hi;exact absurd hi (Nat.not_lt_zero _)⟩
theorem brT_zero {d:Nat} (hd:1<=d):brT d tr0:=brT_leaf hd (by decide) (by decide) rfl
theorem orM_bri {d:Nat} (hd:1<=d) {h:Hd} {t:Tr} (hb:brT d t) (ha:h.2.anc.length<=65536):brT d (orM h t).1:=by
 unfold orM;split
 ·exact hb
 ·split
  ·exact brT_zero hd
  ·split
   ·exact brT_zero hd
   ·obtain⟨e,rfl⟩:∃ e,d=e+1:=⟨d-1,by omega⟩;exact⟨hb.1,Nat.le_trans ha (by decide),hb.2.2⟩
theorem noM_bri {d:Nat} (hd:1<=d) {h:Hd} (ha:h.2.anc.length<=65536):brT d (noM h).1:=by
 unfold noM;split
 ·exact brT_zero hd
 ·exact brT_leaf hd (by simp) (Nat.le_trans ha (by decide)) rfl
theorem bak_bri {d:Nat} (hd:1<=d):∀ (hs:List Hd) (r:Tf),(∀ h∈hs,h.2.anc.length<=65536)->brT d r.1->brT d (bak hs r).1
 | [],r,_,hb=>hb
 | h::hs,r,ha,hb=>by
  rw[bak];split
  ·exact brT_zero hd
  ·exact bak_bri hd hs _ (fun q hq=>ha q (by simp[hq])) (orM_bri hd hb (ha h (by simp)))
theorem beM_bri {d:Nat} (hd:1<=d) {val:Rw->List Rw->Tf} {dp:Bool} {h:Hd} {rs:List Rw} (ht:∀ r∈rs,r.2.1.length<=65536) (ha:h.2.anc.length<=65536) (hv:∀ r rest,(r::rest) <:+ rs->brT d (val r rest).1):brT d (beM val dp h rs).1:=by
 unfold beM;dsimp only;have hs:=hds_suffix dp (rs.length+1) h.1.1 rs;have han:=hds_anc dp (rs.length+1) h.1.1 rs ht
 have hall:∀ q∈(h::(hds dp (rs.length+1) h.1.1 rs).1).reverse,q.2.anc.length<=65536:=fun q hq=>by
  rcases List.mem_cons.1 (List.mem_reverse.1 hq)with rfl | hq
  ·exact ha
  ·exact han q hq
 split
 ·exact brT_zero hd
 ·cases hr:(hds dp (rs.length+1) h.1.1 rs).2.1 with
  | cons r rest =>
   rw[hr]at hs;exact bak_bri hd _ _ hall (hv r rest hs)
  | nil =>
   dsimp only;refine bak_bri hd _ _ (fun q hq=>hall q (List.mem_of_mem_tail hq)) (noM_bri hd ?_)
   cases hrv:(h::(hds dp (rs.length+1) h.1.1 rs).1).reverse with
   | nil=>exact ha
   | cons q l=>rw[hrv]at hall;exact hall q (by simp)
theorem rea_bri {l:Ln} (hl:l.length<=65536):brT 65 (rea l false).1:=by
 unfold rea;have h:=val_l 64 false l
 cases hq:lval 64 false l with
 | error e=>exact brT_zero (by decide)
 | ok x =>
  rw[hq]at h
  cases hv:val 64 false l with
  | error e=>rw[hv]at h;cases h
  | ok y =>
   rw[hv]at h;obtain⟨m,h2,_⟩:=h;have h3:x=(y.1,m):=by injection h2
   rw[h3];exact bri.mono (by decide) (val_short 64 false l y hl hv)
theorem lnM_bri {c z:Int} {l:Ln} {rs:List Rw} (hl:l.length<=65536):brT 65 (lnM c z l rs).1:=by
 unfold lnM;split
 ·exact rea_bri hl
 ·split<;>exact rea_bri hl
theorem blM_bri {d:Nat} (hd:1<=d) {c z:Int} {p:Pp} {f:Bool} {ch:Int} {rs:List Rw} (hg:Good rs) (hp:p.anc.length<=65536):brT d (blM c z p f ch rs).1:=by
 unfold blM
 cases hq:lo none (rws rs c)with
 | inr x=>exact brT_zero hd
 | inl ls =>
  dsimp only;split
  ·exact brT_zero hd
  ·have h3:=hg.bk rs (List.infix_refl _) c ls hq
   have h4:ls.length<=1048576:=by
    have h5:=Blk.lo_len none _ _ hq;have h6:(rws rs c).length<=rs.length:=(List.takeWhile_prefix _).length_le;have:=hg.len;omega
   exact brT_leaf hd (Nat.le_trans (txt_len h3.1 h3.2 h4) (by decide)) (Nat.le_trans hp (by decide)) rfl
theorem meM_bri {d:Nat} (hd:65<=d) {val:Int->Rw->List Rw->Tf} {ar:Int} {r:Rw} {l:Ln} {u:List Rw} (hl:l.length<=65536) (hg:Good u) (hv:∀ q rest,(q::rest) <:+ u->brT d (val ar q rest).1):brT d (meM val ar r l u).1:=by
 have h1:=CP_anc l;unfold meM mnM;split
 ·exact beM_bri (by omega) hg.txt (by show (CP ⟨[],0⟩ l).1.anc.length<=_;omega) hv
 ·split
  ·exact blM_bri (by omega) hg (by omega)
  ·exact bri.more (lnM_bri hl) hd
theorem kiM_bri {d:Nat} {part:Rw->List Rw->List Tr × Int × Int} (c:Int):∀ (n:Nat) (r:Rw) (more:List Rw) (acc:List Tr),(∀ q us,(q::us) <:+: (r::more)->∀ k∈(part q us).1,brT d k)->(∀ k∈acc,brT d k)->∀ k∈(kiM part c n r more acc).1,brT d k
 | 0,_,_,_,_,_,k,hk=>by cases hk
 | n+1,r,more,acc,hp,ha,k,hk=>by
  rw[kiM]at hk
  have h0:∀ k∈acc++(part r (more.take (dpn more c))).1,brT d k:=fun k hk=>by
   rcases List.mem_append.1 hk with h | h
   ·exact ha k h
   ·exact hp r _ ⟨[],more.drop (dpn more c),by simp⟩ k h
  split at hk
  ·cases hk
  ·cases hd:more.drop (dpn more c)with
   | nil=>rw[hd]at hk;exact h0 k hk
   | cons r' rest =>
    rw[hd]at hk;dsimp only at hk;have hs:(r'::rest) <:+ (r::more):=by rw[<-hd];exact(List.drop_suffix _ _).trans (List.suffix_cons _ _)
    split at hk
    ·cases hk
    ·exact kiM_bri c n r' rest _ (fun q us hq=>hp q us (hq.trans hs.isInfix)) h0 k hk
theorem brT_node {d:Nat} {k:Int} {ks:List Tr} (h:∀ t∈ks,brT d t):brT (d+1) ⟨k,[],[],ks⟩ :=
 ⟨Nat.zero_le _,Nat.zero_le _,fun i hi=>h _ (getD_mem hi)⟩
theorem vaM_bri:∀ (n:Nat) (ar:Int) (r:Rw) (rs:List Rw),0<=ar->ar<=64->r.2.1.length<=65536->Good rs->brT (dpt ar) (vaM n ar r rs).1
 | 0,ar,_,_,h0,h1,_,_=>brT_zero (by unfold dpt;omega)
 | n+1,ar,r,rs,h0,h1,hx,hg=>by
  have hd1:65<=dpt ar:=by unfold dpt;omega
  rw[vaM];split
  ·exact brT_zero (by omega)
  ·rename_i har;have hd:dpt ar=dpt (ar+1)+1:=by unfold dpt;omega
   have hd2:65<=dpt (ar+1):=by unfold dpt;omega
   have htx:∀ (q:Rw) (us:List Rw),(q::us) <:+: (r::rs)->q.2.1.length<=65536:=fun q us hi=>by
    rcases List.mem_cons.1 (hi.subset (show q∈q::us by simp))with rfl | h
    ·exact hx
    ·exact hg.txt q h
   have hvs:∀ (a:Int),0<=a->a<=64->∀ us,us <:+: rs->∀ q rest,(q::rest) <:+ us->brT (dpt a) (vaM n a q rest).1:=fun a ha hb us hu q rest hq =>
    vaM_bri n a q rest ha hb (hg.txt q (hu.subset (hq.subset (by simp)))) (hg.sub (((List.suffix_cons q rest).trans hq).isInfix.trans hu))
   split
   ·rw[hd];refine brT_node (kiM_bri r.1 _ r rs [] (fun q us hi k hk=> ?_) (fun k hk=>by cases hk));have hu:=inf_tail hi;have hq:=htx q us hi;unfold itP at hk;split at hk
    ·cases hk
    ·rename_i hit;have hit2:isIt q.2.1=true:=by simpa using hit
     have hlt:=itR_len hit2;split at hk
     ·rw[List.mem_singleton]at hk;rw[hk];exact vaM_bri n (ar+1) _ us (by omega) (by omega) (by show (itR q.2.1).length<=_;omega) (hg.sub hu)
     ·rw[List.mem_singleton]at hk;rw[hk];exact meM_bri hd2 (by omega) (hg.sub hu) (hvs (ar+1) (by omega) (by omega) us hu)
   ·split
    ·rw[hd];refine brT_node (kiM_bri r.1 _ r rs [] (fun q us hi k hk=> ?_) (fun k hk=>by cases hk));have hu:=inf_tail hi;have hq:=htx q us hi;unfold enP at hk;split at hk
     ·cases hk
     ·split at hk
      ·cases hk
      ·have h2:=(en_bdT q.2.1).2;have h3:=enR_len q.2.1;rcases List.mem_cons.1 hk with rfl | hk
       ·exact brT_leaf (by omega) (by show (enT q.2.1).text.length<=_;omega) (by simp) rfl
       ·rw[List.mem_singleton]at hk;rw[hk];exact meM_bri hd2 (by omega) (hg.sub hu) (hvs (ar+1) (by omega) (by omega) us hu)
    ·exact meM_bri hd1 hx hg (hvs ar h0 h1 rs (List.infix_refl _))
end Tre
namespace Tre
open Utf Rws Pln Flw
open Go.RowKit
open Blk (Rw RwAt z3)
set_option maxHeartbeats 8000000
def top:Hd:=((-9223372036854775808,[],0),⟨[],0⟩)
def paM (n:Nat) (rs:List Rw):Tf :=
 if (beM (vaM n 0) false top rs).2.1≠0 then (tr0,(beM (vaM n 0) false top rs).2)else
 if rgh 129 (beM (vaM n 0) false top rs).1=false then (tr0,5,(beM (vaM n 0) false top rs).2.2)else ((beM (vaM n 0) false top rs).1,0,0)
theorem two_b (w:World) (c0 c1:Array Value) (t0 t1:TypeId):Below w.heap.size w ((w.alloc (.cells c0 t0)).alloc (.cells c1 t1))/\Bx ((w.alloc (.cells c0 t0)).alloc (.cells c1 t1)) w.heap.size c0 t0/\Bx ((w.alloc (.cells c0 t0)).alloc (.cells c1 t1)) (w.heap.size+1) c1 t1:=two_new w c0 c1 t0 t1
theorem parse_any (n:Nat) (a:Option Addr) (len cap:Nat) (rs:List Rw) (w:World) (hT:Tb w) (hR:RowsIn w a len cap rs) (hg:Good rs) (hm:msr rs<n) :
  Calls Tryz.prog 7 #[.slice a len cap] w fun e w'=>TfD 129 (paM n rs) w e w':=by
 have HBE:Hid (∀ w0,Below w.heap.size w w0->Calls Tryz.prog 14 #[.int .i64 0,.agg #[.int .i64 (-9223372036854775808),.string ⟨#[]⟩,.int .i64 0],.agg #[.string ⟨#[]⟩,.int .i64 0],.slice a len cap] w0 fun e w'=>TfD 129 (beM (vaM n 0) false top rs) w0 e w'):=fun w0 hb =>
  below_join 129 (by decide) 0 (-9223372036854775808) [] 0 ⟨[],0⟩ a len cap rs w0 (hR.later hb) hg (by decide) (vaM n 0) (fun r rest hs a' len' cap' w1 hr1 hb1=>by
   have hq:r∈rs:=hs.subset (by simp);exact value_ih n 0 r a' len' cap' rest w1 (by decide) (by decide) (hg.txt r hq) (hg.col r hq) (hT.later (hb.trans (hb1.mono hb.size))) hr1 (hg.sub ((List.suffix_cons r rest).trans hs).isInfix) (Nat.lt_of_le_of_lt (msr_sub hs.isInfix) hm))
 have HBR:Hid (brT 129 (beM (vaM n 0) false top rs).1):=beM_bri (by decide) hg.txt (by decide) (fun r rest hs=>vaM_bri n 0 r rest (by decide) (by decide) (hg.txt r (hs.subset (by simp))) (hg.sub ((List.suffix_cons r rest).trans hs).isInfix));have HTb:Hid (Tb w):=hT;unfold paM;generalize beM (vaM n 0) false top rs=R at HBE HBR |-;clear hR hg hm hT;obtain⟨R1,R2,R3⟩:=R;dsimp only at HBR |-;obtain⟨PM,HPM⟩:∃ PM,Hid (PM=if R2≠0 then (tr0,R2,R3)else if rgh 129 R1=false then (tr0,5,R3)else (R1,0,0)):=⟨_,rfl⟩;rw[<-HPM.out];have N2:Hid (_/\_/\_):=two_b w zT #[.int .i64 0,.int .i64 0] 24 33;go_enter Tryz.func7,Tryz.ntmps7;go_wp2_with fail;change Calls _ _ _ ((w.alloc (.cells zT 24)).alloc (.cells #[.int .i64 0,.int .i64 0] 33)) _;generalize (w.alloc (.cells zT 24)).alloc (.cells #[.int .i64 0,.int .i64 0] 33)=W at N2 |-;obtain⟨K1,hK1⟩:∃ K,K=w.heap.size+1:=⟨_,rfl⟩;obtain⟨K0,hK0⟩:∃ K,K=w.heap.size:=⟨_,rfl⟩
 have HB:Hid (Below w.heap.size w W/\Bx W K0 zT 24/\Bx W K1 #[.int .i64 0,.int .i64 0] 33):=by
  rw[hK0,hK1];exact N2.out
 rw[<-hK1,<-hK0];have hK:w.heap.size<=K0/\K0<K1:=by omega
 have hn01:K0≠K1:=by omega
 have hn10:K1≠K0:=by omega
 clear N2 hK0 hK1;refine(HBE.out W HB.out.1).mono ?_;rintro e w3 ⟨v,rfl,ht,hb3⟩;obtain⟨k2,x2,a2,ad2,len2,cap2,rfl⟩:=ht.cells
 have H5:Hid (∀ w5,w5=(w3.alloc (.cells #[.int .i64 k2,.string x2,.string a2,.slice ad2 len2 cap2] 24)).alloc (.cells #[.int .i64 R2,.int .i64 R3] 33)->Below w.heap.size w w5/\Bx w5 K0 zT 24/\Bx w5 K1 #[.int .i64 0,.int .i64 0] 33/\Bx w5 w3.heap.size #[.int .i64 k2,.string x2,.string a2,.slice ad2 len2 cap2] 24/\Bx w5 (w3.heap.size+1) #[.int .i64 R2,.int .i64 R3] 33/\TrP W.heap.size w5 129 (.agg #[.int .i64 k2,.string x2,.string a2,.slice ad2 len2 cap2]) R1/\K1<w3.heap.size/\W.heap.size<=w3.heap.size):=fun w5 e=>by
  subst e;have h2:=two_b w3 #[.int .i64 k2,.string x2,.string a2,.slice ad2 len2 cap2] #[.int .i64 R2,.int .i64 R3] 24 33;have b:=hb3.trans (h2.1.mono hb3.size);exact⟨HB.out.1.trans (b.mono HB.out.1.size),HB.out.2.1.later b,HB.out.2.2.later b,h2.2.1,h2.2.2,ht.later h2.1,Nat.lt_of_lt_of_le HB.out.2.2.lt hb3.size,hb3.size⟩
 have hK1W:K1<W.heap.size:=HB.out.2.2.lt;clear ht hb3 HB HBE;go_upto_region 2 with fail
 have N5:=H5.out _ rfl;clear H5;change Code.wp _ _ _ _ ((w3.alloc (.cells #[.int .i64 k2,.string x2,.string a2,.slice ad2 len2 cap2] 24)).alloc (.cells #[.int .i64 R2,.int .i64 R3] 33));generalize (w3.alloc (.cells #[.int .i64 k2,.string x2,.string a2,.slice ad2 len2 cap2] 24)).alloc (.cells #[.int .i64 R2,.int .i64 R3] 33)=w5 at N5 |-;obtain⟨KF,hKF⟩:∃ K,K=w3.heap.size+1:=⟨_,rfl⟩;obtain⟨KT,hKT⟩:∃ K,K=w3.heap.size:=⟨_,rfl⟩
 have HS:Hid (Below w.heap.size w w5/\Bx w5 K0 zT 24/\Bx w5 K1 #[.int .i64 0,.int .i64 0] 33/\Bx w5 KT #[.int .i64 k2,.string x2,.string a2,.slice ad2 len2 cap2] 24/\Bx w5 KF #[.int .i64 R2,.int .i64 R3] 33/\TrP W.heap.size w5 129 (.agg #[.int .i64 k2,.string x2,.string a2,.slice ad2 len2 cap2]) R1):=by
  rw[hKF,hKT];exact⟨N5.1,N5.2.1,N5.2.2.1,N5.2.2.2.1,N5.2.2.2.2.1,N5.2.2.2.2.2.1⟩
 have hK5:K1<KT/\KT<KF:=⟨by have:=N5.2.2.2.2.2.2.1;omega,by omega⟩;rw[<-hKF,<-hKT];clear N5 hKF hKT;obtain⟨f0,f1⟩:=HS.out.2.2.2.2.1.c2;have f2:=HS.out.2.2.2.2.1.fz 0;have f3:=HS.out.2.2.2.2.1.fz 1;obtain⟨t0,t1,t2,t3⟩:=HS.out.2.2.2.1.c4;have HRI:Hid (Calls Tryz.prog 11 #[.agg #[.int .i64 k2,.string x2,.string a2,.slice ad2 len2 cap2]] w5 fun e w'=>e=.returned (.bool (rgh 129 R1))/\Below w5.heap.size w5 w'):=right_big HBR.out (TrP.v HS.out.2.2.2.2.2) (HTb.out.later HS.out.1);have hkf:KF≠K0/\KF≠K1/\KT≠K0/\KT≠K1/\KT≠KF:=by omega
 have hkf1:=hkf.1;have hkf2:=hkf.2.1;have hkf3:=hkf.2.2.1;have hkf4:=hkf.2.2.2.1;have hkf5:=hkf.2.2.2.2;have hkf6:KF≠KT:=fun e=>hkf5 e.symm
 by_cases hy:R2=0
 ·subst hy;cases hr:rgh 129 R1
  ·have HV:Hid (PM=(tr0,5,R3)):=by show PM=_;rw[HPM.out,if_neg (by simp),if_pos hr]
   clear HPM;rw[hr]at HRI;go_wp2_with fail;refine HRI.out.mono ?_;rintro e w6 ⟨rfl,H6⟩;have e0:=HS.out.2.2.2.2.1.later H6;obtain⟨f0,f1⟩:=e0.c2;have f2:=e0.fz 0;have f3:=e0.fz 1;have HX:Hid (Below w.heap.size w (w6.setCell ⟨KF,0,none⟩ (.int .i64 5))/\Bx (w6.setCell ⟨KF,0,none⟩ (.int .i64 5)) K0 zT 24/\Bx (w6.setCell ⟨KF,0,none⟩ (.int .i64 5)) K1 #[.int .i64 0,.int .i64 0] 33/\Bx (w6.setCell ⟨KF,0,none⟩ (.int .i64 5)) KF #[.int .i64 5,.int .i64 R3] 33):=⟨(HS.out.1.trans (H6.mono HS.out.1.size)).setCell (p:=⟨KF,0,none⟩) (by show _<=KF;omega) _,(HS.out.2.1.later H6).other (fun e=>hkf1 e.symm) _ _,(HS.out.2.2.1.later H6).other (fun e=>hkf2 e.symm) _ _,e0.set 0 _⟩;clear HS H6 t0 t1 t2 t3 HRI e0;go_upto_region 4 with fail
   generalize w6.setCell ⟨KF,0,none⟩ (.int .i64 5)=w7 at HX |-;clear f0 f1 f2 f3;obtain⟨f0,f1⟩:=HX.out.2.2.2.c2;have HQ:Hid (Below w.heap.size w w7/\Bx w7 K0 zT 24/\Bx w7 K1 #[.int .i64 0,.int .i64 0] 33):=⟨HX.out.1,HX.out.2.1,HX.out.2.2.1⟩;clear HX;obtain⟨d0,d1,d2,d3,d4,d5,z0,z1,z2,z3,z4,z5⟩:=c6_of HQ.out.2.1 HQ.out.2.2;have HF:Hid (_/\_/\_):=fill6_is HQ.out.2.1 HQ.out.2.2 hn01 HQ.out.1 (by omega) (by omega) (.int .i64 0) (.string ⟨#[]⟩) (.string ⟨#[]⟩) (.slice none 0 0) (.int .i64 5) (.int .i64 R3);clear HQ;go_wp2_with fail;go_region
   all_goals
    go_wp2;change bodyPost _ _ _ _ _ (fill6 w7 K0 K1 (.int .i64 0) (.string ⟨#[]⟩) (.string ⟨#[]⟩) (.slice none 0 0) (.int .i64 5) (.int .i64 R3)).drew;generalize fill6 w7 K0 K1 (.int .i64 0) (.string ⟨#[]⟩) (.string ⟨#[]⟩) (.slice none 0 0) (.int .i64 5) (.int .i64 R3)=WF at HF |-;have j0:WF.drew.cell? ⟨K0,0,none⟩=_:=HF.out.2.1.cell 0;have j1:WF.drew.cell? ⟨K0,1,none⟩=_:=HF.out.2.1.cell 1;have j2:WF.drew.cell? ⟨K0,2,none⟩=_:=HF.out.2.1.cell 2;have j3:WF.drew.cell? ⟨K0,3,none⟩=_:=HF.out.2.1.cell 3;have j4:WF.drew.cell? ⟨K1,0,none⟩=_:=HF.out.2.2.cell 0;have j5:WF.drew.cell? ⟨K1,1,none⟩=_:=HF.out.2.2.cell 1;refine bodyPost_ret (v:=.tuple #[.agg #[.int .i64 0,.string ⟨#[]⟩,.string ⟨#[]⟩,.slice none 0 0],.agg #[.int .i64 5,.int .i64 R3]]) (by simp[results,Tryz.results7,go_sem,j0,j1,j2,j3,j4,j5]) rfl ?_;rw[HV.out];exact⟨_,rfl,TrP.leaf 0 [] [] (by decide) (by decide) (by decide) 128,HF.out.1.drew⟩
  ·have HV:Hid (PM=(R1,0,0)):=by show PM=_;rw[HPM.out,if_neg (by simp),if_neg (by rw[hr];simp)]
   clear HPM;rw[hr]at HRI;go_wp2_with fail;refine HRI.out.mono ?_;rintro e w6 ⟨rfl,H6⟩;have HS6:Hid (Below w.heap.size w w6/\Bx w6 K0 zT 24/\Bx w6 K1 #[.int .i64 0,.int .i64 0] 33/\Bx w6 KT #[.int .i64 k2,.string x2,.string a2,.slice ad2 len2 cap2] 24/\Bx w6 KF #[.int .i64 0,.int .i64 R3] 33/\TrP W.heap.size w6 129 (.agg #[.int .i64 k2,.string x2,.string a2,.slice ad2 len2 cap2]) R1):=⟨HS.out.1.trans (H6.mono HS.out.1.size),HS.out.2.1.later H6,HS.out.2.2.1.later H6,HS.out.2.2.2.1.later H6,HS.out.2.2.2.2.1.later H6,HS.out.2.2.2.2.2.later H6⟩;clear HS H6 f0 f1 f2 f3 t0 t1 t2 t3 HRI;have f0:w6.cell? ⟨KF,0,none⟩=some (.int .i64 0):=HS6.out.2.2.2.2.1.cell 0;obtain⟨t0,t1,t2,t3⟩:=HS6.out.2.2.2.1.c4;obtain⟨d0,d1,d2,d3,d4,d5,z0,z1,z2,z3,z4,z5⟩:=c6_of HS6.out.2.1 HS6.out.2.2.1;have HF:Hid (_/\_/\_):=fill6_is HS6.out.2.1 HS6.out.2.2.1 hn01 HS6.out.1 (by omega) (by omega) (.int .i64 k2) (.string x2) (.string a2) (.slice ad2 len2 cap2) (.int .i64 0) (.int .i64 0);have hq0:K0<W.heap.size:=by omega
   have HTF:Hid (TrP w.heap.size (fill6 w6 K0 K1 (.int .i64 k2) (.string x2) (.string a2) (.slice ad2 len2 cap2) (.int .i64 0) (.int .i64 0)) 129 (.agg #[.int .i64 k2,.string x2,.string a2,.slice ad2 len2 cap2]) R1):=TrP.mono (c:=W.heap.size) (by omega) ((((((HS6.out.2.2.2.2.2.set hq0).set hq0).set hq0).set hq0).set hK1W).set hK1W);clear HS6;go_wp2;change bodyPost _ _ _ _ _ (fill6 w6 K0 K1 (.int .i64 k2) (.string x2) (.string a2) (.slice ad2 len2 cap2) (.int .i64 0) (.int .i64 0));generalize fill6 w6 K0 K1 (.int .i64 k2) (.string x2) (.string a2) (.slice ad2 len2 cap2) (.int .i64 0) (.int .i64 0)=WF at HF HTF |-;have j0:WF.cell? ⟨K0,0,none⟩=_:=HF.out.2.1.cell 0;have j1:WF.cell? ⟨K0,1,none⟩=_:=HF.out.2.1.cell 1;have j2:WF.cell? ⟨K0,2,none⟩=_:=HF.out.2.1.cell 2;have j3:WF.cell? ⟨K0,3,none⟩=_:=HF.out.2.1.cell 3;have j4:WF.cell? ⟨K1,0,none⟩=_:=HF.out.2.2.cell 0;have j5:WF.cell? ⟨K1,1,none⟩=_:=HF.out.2.2.cell 1;refine bodyPost_ret (v:=.tuple #[.agg #[.int .i64 k2,.string x2,.string a2,.slice ad2 len2 cap2],.agg #[.int .i64 0,.int .i64 0]]) (by simp[results,Tryz.results7,go_sem,j0,j1,j2,j3,j4,j5]) rfl ?_;rw[HV.out];exact⟨_,rfl,HTF.out,HF.out.1⟩
 ·have HV:Hid (PM=(tr0,R2,R3)):=by show PM=_;rw[HPM.out,if_pos hy]
  clear HPM;have hyb:(R2==0)=false:=by rw[beq_eq_false_iff_ne];exact hy
  have hyn:(R2 != 0)=true:=by simpa using hy
  have HQ:Hid (Below w.heap.size w w5/\Bx w5 K0 zT 24/\Bx w5 K1 #[.int .i64 0,.int .i64 0] 33):=⟨HS.out.1,HS.out.2.1,HS.out.2.2.1⟩;clear HS HRI;obtain⟨d0,d1,d2,d3,d4,d5,z0,z1,z2,z3,z4,z5⟩:=c6_of HQ.out.2.1 HQ.out.2.2;have HF:Hid (_/\_/\_):=fill6_is HQ.out.2.1 HQ.out.2.2 hn01 HQ.out.1 (by omega) (by omega) (.int .i64 0) (.string ⟨#[]⟩) (.string ⟨#[]⟩) (.slice none 0 0) (.int .i64 R2) (.int .i64 R3);clear HQ;go_wp2_with fail;go_region
  all_goals
   go_wp2;change bodyPost _ _ _ _ _ (fill6 w5 K0 K1 (.int .i64 0) (.string ⟨#[]⟩) (.string ⟨#[]⟩) (.slice none 0 0) (.int .i64 R2) (.int .i64 R3)).drew;generalize fill6 w5 K0 K1 (.int .i64 0) (.string ⟨#[]⟩) (.string ⟨#[]⟩) (.slice none 0 0) (.int .i64 R2) (.int .i64 R3)=WF at HF |-;have j0:WF.drew.cell? ⟨K0,0,none⟩=_:=HF.out.2.1.cell 0;have j1:WF.drew.cell? ⟨K0,1,none⟩=_:=HF.out.2.1.cell 1;have j2:WF.drew.cell? ⟨K0,2,none⟩=_:=HF.out.2.1.cell 2;have j3:WF.drew.cell? ⟨K0,3,none⟩=_:=HF.out.2.1.cell 3;have j4:WF.drew.cell? ⟨K1,0,none⟩=_:=HF.out.2.2.cell 0;have j5:WF.drew.cell? ⟨K1,1,none⟩=_:=HF.out.2.2.cell 1;refine bodyPost_ret (v:=.tuple #[.agg #[.int .i64 0,.string ⟨#[]⟩,.string ⟨#[]⟩,.slice none 0 0],.agg #[.int .i64 R2,.int .i64 R3]]) (by simp[results,Tryz.results7,go_sem,j0,j1,j2,j3,j4,j5]) rfl ?_;rw[HV.out];exact⟨_,rfl,TrP.leaf 0 [] [] (by decide) (by decide) (by decide) 128,HF.out.1.drew⟩
end Tre
end Go.Proofs.YtidhpmcmbooaoaaGreatDoor
