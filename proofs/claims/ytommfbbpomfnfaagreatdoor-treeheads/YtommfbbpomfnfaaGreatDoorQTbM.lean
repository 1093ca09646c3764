/- . -/
import Derived.Test.YtommfbbpomfnfaaGreatDoorQTreeJoin
import Derived.Test.YtommfbbpomfnfaaGreatDoorQFbW
set_option linter.unusedSimpArgs false
set_option linter.unusedVariables false
set_option maxRecDepth 100000
namespace Go.Proofs.YtommfbbpomfnfaaGreatDoor
namespace Tre
open Utf Rws Pln Flw
open Go.RowKit
open Blk (Rw RwAt z3 lo rws joinW trm fld headO hdV)
set_option maxHeartbeats 1000000
abbrev brT (d:Nat) (t:Tr):Prop:=bri 2147483648 d t
theorem brT_leaf {d:Nat} (hd:1<=d) {t:Tr} (h1:t.text.length<=2147483648) (h2:t.anc.length<=2147483648) (h3:t.kids=[]):brT d t:=by
 obtain⟨e,rfl⟩:∃ e,d=e+1:=⟨d-1,by omega⟩;exact⟨h1,h2,fun i hi=>by rw[h3]at hi;exact absurd hi (Nat.not_lt_zero _)⟩
theorem brT_zero {d:Nat} (hd:1<=d):brT d tr0:=brT_leaf hd (by decide) (by decide) rfl
theorem orM_bri {d:Nat} (hd:1<=d) {h:Hd} {t:Tr} (hb:brT d t) (ha:h.2.anc.length<=65536):brT d (orM h t).1:=by
 unfold orM;split
 ·exact hb
 ·split
  ·exact brT_zero hd
  ·split
   ·exact brT_zero hd
   ·obtain⟨e,rfl⟩:∃ e,d=e+1:=⟨d-1,by omega⟩;exact⟨hb.1,Nat.le_trans ha (by decide),hb.2.2⟩
theorem noM_bri {d:Nat} (hd:1<=d) {h:Hd} (ha:h.2.anc.length<=65536):brT d (noM h).1:=by
 unfold noM;split
 ·exact brT_zero hd
 ·exact brT_leaf hd (by simp) (Nat.le_trans ha (by decide)) rfl
theorem bak_bri {d:Nat} (hd:1<=d):∀ (hs:List Hd) (r:Tf),(∀ h∈hs,h.2.anc.length<=65536)->brT d r.1->brT d (bak hs r).1
 | [],r,_,hb=>hb
 | h::hs,r,ha,hb=>by
  rw[bak];split
  ·exact brT_zero hd
  ·exact bak_bri hd hs _ (fun q hq=>ha q (by simp[hq])) (orM_bri hd hb (ha h (by simp)))
theorem beM_bri {d:Nat} (hd:1<=d) {val:Rw->List Rw->Tf} {dp:Bool} {h:Hd} {rs:List Rw} (ht:∀ r∈rs,r.2.1.length<=65536) (ha:h.2.anc.length<=65536) (hv:∀ r rest,(r::rest) <:+ rs->brT d (val r rest).1):brT d (beM val dp h rs).1:=by
 unfold beM;dsimp only;have hs:=hds_suffix dp (rs.length+1) h.1.1 rs;have han:=hds_anc dp (rs.length+1) h.1.1 rs ht
 have hall:∀ q∈(h::(hds dp (rs.length+1) h.1.1 rs).1).reverse,q.2.anc.length<=65536:=fun q hq=>by
  rcases List.mem_cons.1 (List.mem_reverse.1 hq)with rfl | hq
  ·exact ha
  ·exact han q hq
 split
 ·exact brT_zero hd
 ·cases hr:(hds dp (rs.length+1) h.1.1 rs).2.1 with
  | cons r rest =>
   rw[hr]at hs;exact bak_bri hd _ _ hall (hv r rest hs)
  | nil =>
   dsimp only;refine bak_bri hd _ _ (fun q hq=>hall q (List.mem_of_mem_tail hq)) (noM_bri hd ?_)
   cases hrv:(h::(hds dp (rs.length+1) h.1.1 rs).1).reverse with
   | nil=>exact ha
   | cons q l=>rw[hrv]at hall;exact hall q (by simp)
theorem rea_bri {l:Ln} (hl:l.length<=65536):brT 65 (rea l false).1:=by
 unfold rea;have h:=val_l 64 false l
 cases hq:lval 64 false l with
 | error e=>exact brT_zero (by decide)
 | ok x =>
  rw[hq]at h
  cases hv:val 64 false l with
  | error e=>rw[hv]at h;cases h
  | ok y =>
   rw[hv]at h;obtain⟨m,h2,_⟩:=h;have h3:x=(y.1,m):=by injection h2
   rw[h3];exact bri.mono (by decide) (val_short 64 false l y hl hv)
theorem lnM_bri {c z:Int} {l:Ln} {rs:List Rw} (hl:l.length<=65536):brT 65 (lnM c z l rs).1:=by
 unfold lnM;split
 ·exact rea_bri hl
 ·split<;>exact rea_bri hl
theorem blM_bri {d:Nat} (hd:1<=d) {c z:Int} {p:Pp} {f:Bool} {ch:Int} {rs:List Rw} (hg:Good rs) (hp:p.anc.length<=65536):brT d (blM c z p f ch rs).1:=by
 unfold blM
 cases hq:lo none (rws rs c)with
 | inr x=>exact brT_zero hd
 | inl ls =>
  dsimp only;split
  ·exact brT_zero hd
  ·have h3:=hg.bk rs (List.infix_refl _) c ls hq
   have h4:ls.length<=1048576:=by
    have h5:=Blk.lo_len none _ _ hq;have h6:(rws rs c).length<=rs.length:=(List.takeWhile_prefix _).length_le;have:=hg.len;omega
   exact brT_leaf hd (Nat.le_trans (txt_len h3.1 h3.2 h4) (by decide)) (Nat.le_trans hp (by decide)) rfl
theorem meM_bri {d:Nat} (hd:65<=d) {val:Int->Rw->List Rw->Tf} {ar:Int} {r:Rw} {l:Ln} {u:List Rw} (hl:l.length<=65536) (hg:Good u) (hv:∀ q rest,(q::rest) <:+ u->brT d (val ar q rest).1):brT d (meM val ar r l u).1:=by
 have h1:=CP_anc l;unfold meM mnM;split
 ·exact beM_bri (by omega) hg.txt (by show (CP ⟨[],0⟩ l).1.anc.length<=_;omega) hv
 ·split
  ·exact blM_bri (by omega) hg (by omega)
  ·exact bri.more (lnM_bri hl) hd
theorem kiM_bri {d:Nat} {part:Rw->List Rw->List Tr × Int × Int} (c:Int):∀ (n:Nat) (r:Rw) (more:List Rw) (acc:List Tr),(∀ q us,(q::us) <:+: (r::more)->∀ k∈(part q us).1,brT d k)->(∀ k∈acc,brT d k)->∀ k∈(kiM part c n r more acc).1,brT d k
 | 0,_,_,_,_,_,k,hk=>by cases hk
 | n+1,r,more,acc,hp,ha,k,hk=>by
  rw[kiM]at hk
  have h0:∀ k∈acc++(part r (more.take (dpn more c))).1,brT d k:=fun k hk=>by
   rcases List.mem_append.1 hk with h | h
   ·exact ha k h
   ·exact hp r _ ⟨[],more.drop (dpn more c),by simp⟩ k h
  split at hk
  ·cases hk
  ·cases hd:more.drop (dpn more c)with
   | nil=>rw[hd]at hk;exact h0 k hk
   | cons r' rest =>
    rw[hd]at hk;dsimp only at hk;have hs:(r'::rest) <:+ (r::more):=by rw[<-hd];exact(List.drop_suffix _ _).trans (List.suffix_cons _ _)
    split at hk
    ·cases hk
    ·exact kiM_bri c n r' rest _ (fun q us hq=>hp q us (hq.trans hs.isInfix)) h0 k hk
theorem brT_node {d:Nat} {k:Int} {ks:List Tr} (h:∀ t∈ks,brT d t):brT (d+1) ⟨k,[],[],ks⟩ :=
 ⟨Nat.zero_le _,Nat.zero_le _,fun i hi=>h _ (getD_mem hi)⟩
theorem vaM_bri:∀ (n:Nat) (ar:Int) (r:Rw) (rs:List Rw),0<=ar->ar<=64->r.2.1.length<=65536->Good rs->brT (dpt ar) (vaM n ar r rs).1
 | 0,ar,_,_,h0,h1,_,_=>brT_zero (by unfold dpt;omega)
 | n+1,ar,r,rs,h0,h1,hx,hg=>by
  have hd1:65<=dpt ar:=by unfold dpt;omega
  rw[vaM];split
  ·exact brT_zero (by omega)
  ·rename_i har;have hd:dpt ar=dpt (ar+1)+1:=by unfold dpt;omega
   have hd2:65<=dpt (ar+1):=by unfold dpt;omega
   have htx:∀ (q:Rw) (us:List Rw),(q::us) <:+: (r::rs)->q.2.1.length<=65536:=fun q us hi=>by
    rcases List.mem_cons.1 (hi.subset (show q∈q::us by simp))with rfl | h
    ·exact hx
    ·exact hg.txt q h
   have hvs:∀ (a:Int),0<=a->a<=64->∀ us,us <:+: rs->∀ q rest,(q::rest) <:+ us->brT (dpt a) (vaM n a q rest).1:=fun a ha hb us hu q rest hq =>
    vaM_bri n a q rest ha hb (hg.txt q (hu.subset (hq.subset (by simp)))) (hg.sub (((List.suffix_cons q rest).trans hq).isInfix.trans hu))
   split
   ·rw[hd];refine brT_node (kiM_bri r.1 _ r rs [] (fun q us hi k hk=> ?_) (fun k hk=>by cases hk));have hu:=inf_tail hi;have hq:=htx q us hi;unfold itP at hk;split at hk
    ·cases hk
    ·rename_i hit;have hit2:isIt q.2.1=true:=by simpa using hit
     have hlt:=itR_len hit2;split at hk
     ·rw[List.mem_singleton]at hk;rw[hk];exact vaM_bri n (ar+1) _ us (by omega) (by omega) (by show (itR q.2.1).length<=_;omega) (hg.sub hu)
     ·rw[List.mem_singleton]at hk;rw[hk];exact meM_bri hd2 (by omega) (hg.sub hu) (hvs (ar+1) (by omega) (by omega) us hu)
   ·split
    ·rw[hd];refine brT_node (kiM_bri r.1 _ r rs [] (fun q us hi k hk=> ?_) (fun k hk=>by cases hk));have hu:=inf_tail hi;have hq:=htx q us hi;unfold enP at hk;split at hk
     ·cases hk
     ·split at hk
      ·cases hk
      ·have h2:=(en_bdT q.2.1).2;have h3:=enR_len q.2.1;rcases List.mem_cons.1 hk with rfl | hk
       ·exact brT_leaf (by omega) (by show (enT q.2.1).text.length<=_;omega) (by simp) rfl
       ·rw[List.mem_singleton]at hk;rw[hk];exact meM_bri hd2 (by omega) (hg.sub hu) (hvs (ar+1) (by omega) (by omega) us hu)
    ·exact meM_bri hd1 hx hg (hvs ar h0 h1 rs (List.infix_refl _))
end Tre
namespace Tre
open Utf Rws Pln Flw
open Go.RowKit
open Blk (Rw RwAt z3)
set_option maxHeartbeats 8000000
def top:Hd:=((-9223372036854775808,[],0),⟨[],0⟩)
def paM (n:Nat) (rs:List Rw):Tf :=
 if (beM (vaM n 0) false top rs).2.1≠0 then (tr0,(beM (vaM n 0) false top rs).2)else
 if rgh 129 (beM (vaM n 0) false top rs).1=false then (tr0,5,(beM (vaM n 0) false top rs).2.2)else ((beM (vaM n 0) false top rs).1,0,0)
theorem two_b (w:World) (c0 c1:Array Value) (t0 t1:TypeId):Below w.heap.size w ((w.alloc (.cells c0 t0)).alloc (.cells c1 t1))/\Bx ((w.alloc (.cells c0 t0)).alloc (.cells c1 t1)) w.heap.size c0 t0/\Bx ((w.alloc (.cells c0 t0)).alloc (.cells c1 t1)) (w.heap.size+1) c1 t1:=two_new w c0 c1 t0 t1
theorem parse_any (n:Nat) (a:Option Addr) (len cap:Nat) (rs:List Rw) (w:World) (hT:Tb w) (hR:RowsIn w a len cap rs) (hg:Good rs) (hm:msr rs<n) :
  Calls Tryz.prog 17 #[.slice a len cap] w fun e w'=>TfD 129 (paM n rs) w e w':=by
 have HBE:Hid (∀ w0,Below w.heap.size w w0->Calls Tryz.prog 38 #[.int .i64 0,.agg #[.int .i64 (-9223372036854775808),.string ⟨#[]⟩,.int .i64 0],.agg #[.string ⟨#[]⟩,.int .i64 0],.slice a len cap] w0 fun e w'=>TfD 129 (beM (vaM n 0) false top rs) w0 e w'):=fun w0 hb =>
  below_join 129 (by decide) 0 (-9223372036854775808) [] 0 ⟨[],0⟩ a len cap rs w0 (hR.later hb) hg (by decide) (vaM n 0) (fun r rest hs a' len' cap' w1 hr1 hb1=>by
   have hq:r∈rs:=hs.subset (by simp);exact value_ih n 0 r a' len' cap' rest w1 (by decide) (by decide) (hg.txt r hq) (hg.col r hq) (hT.later (hb.trans (hb1.mono hb.size))) hr1 (hg.sub ((List.suffix_cons r rest).trans hs).isInfix) (Nat.lt_of_le_of_lt (msr_sub hs.isInfix) hm))
 have HBR:Hid (brT 129 (beM (vaM n 0) false top rs).1):=beM_bri (by decide) hg.txt (by decide) (fun r rest hs=>vaM_bri n 0 r rest (by decide) (by decide) (hg.txt r (hs.subset (by simp))) (hg.sub ((List.suffix_cons r rest).trans hs).isInfix));have HTb:Hid (Tb w):=hT;unfold paM;generalize beM (vaM n 0) false top rs=R at HBE HBR |-;clear hR hg hm hT;obtain⟨R1,R2,R3⟩:=R;dsimp only at HBR |-;obtain⟨PM,HPM⟩:∃ PM,Hid (PM=if R2≠0 then (tr0,R2,R3)else if rgh 129 R1=false then (tr0,5,R3)else (R1,0,0)):=⟨_,rfl⟩;rw[<-HPM.out];have N2:Hid (_/\_/\_):=two_b w zT #[.int .i64 0,.int .i64 0] 26 34;go_enter Tryz.func17,Tryz.ntmps17;go_wp2_with fail;change Calls _ _ _ ((w.alloc (.cells zT 26)).alloc (.cells #[.int .i64 0,.int .i64 0] 34)) _;generalize (w.alloc (.cells zT 26)).alloc (.cells #[.int .i64 0,.int .i64 0] 34)=W at N2 |-;obtain⟨K1,hK1⟩:∃ K,K=w.heap.size+1:=⟨_,rfl⟩;obtain⟨K0,hK0⟩:∃ K,K=w.heap.size:=⟨_,rfl⟩
 have HB:Hid (Below w.heap.size w W/\Bx W K0 zT 26/\Bx W K1 #[.int .i64 0,.int .i64 0] 34):=by
  rw[hK0,hK1];exact N2.out
 rw[<-hK1,<-hK0];have hK:w.heap.size<=K0/\K0<K1:=by omega
 have hn01:K0≠K1:=by omega
 have hn10:K1≠K0:=by omega
 clear N2 hK0 hK1;refine(HBE.out W HB.out.1).mono ?_;rintro e w3 ⟨v,rfl,ht,hb3⟩;obtain⟨k2,x2,a2,ad2,len2,cap2,rfl⟩:=ht.cells
 have H5:Hid (∀ w5,w5=(w3.alloc (.cells #[.int .i64 k2,.string x2,.string a2,.slice ad2 len2 cap2] 26)).alloc (.cells #[.int .i64 R2,.int .i64 R3] 34)->Below w.heap.size w w5/\Bx w5 K0 zT 26/\Bx w5 K1 #[.int .i64 0,.int .i64 0] 34/\Bx w5 w3.heap.size #[.int .i64 k2,.string x2,.string a2,.slice ad2 len2 cap2] 26/\Bx w5 (w3.heap.size+1) #[.int .i64 R2,.int .i64 R3] 34/\TrP W.heap.size w5 129 (.agg #[.int .i64 k2,.string x2,.string a2,.slice ad2 len2 cap2]) R1/\K1<w3.heap.size/\W.heap.size<=w3.heap.size):=fun w5 e=>by
  subst e;have h2:=two_b w3 #[.int .i64 k2,.string x2,.string a2,.slice ad2 len2 cap2] #[.int .i64 R2,.int .i64 R3] 26 34;have b:=hb3.trans (h2.1.mono hb3.size);exact⟨HB.out.1.trans (b.mono HB.out.1.size),HB.out.2.1.later b,HB.out.2.2.later b,h2.2.1,h2.2.2,ht.later h2.1,Nat.lt_of_lt_of_le HB.out.2.2.lt hb3.size,hb3.size⟩
 have hK1W:K1<W.heap.size:=HB.out.2.2.lt;clear ht hb3 HB HBE;go_upto_region 2 with fail
 have N5:=H5.out _ rfl;clear H5;change Code.wp _ _ _ _ ((w3.alloc (.cells #[.int .i64 k2,.string x2,.string a2,.slice ad2 len2 cap2] 26)).alloc (.cells #[.int .i64 R2,.int .i64 R3] 34));generalize (w3.alloc (.cells #[.int .i64 k2,.string x2,.string a2,.slice ad2 len2 cap2] 26)).alloc (.cells #[.int .i64 R2,.int .i64 R3] 34)=w5 at N5 |-;obtain⟨KF,hKF⟩:∃ K,K=w3.heap.size+1:=⟨_,rfl⟩;obtain⟨KT,hKT⟩:∃ K,K=w3.heap.size:=⟨_,rfl⟩
 have HS:Hid (Below w.heap.size w w5/\Bx w5 K0 zT 26/\Bx w5 K1 #[.int .i64 0,.int .i64 0] 34/\Bx w5 KT #[.int .i64 k2,.string x2,.string a2,.slice ad2 len2 cap2] 26/\Bx w5 KF #[.int .i64 R2,.int .i64 R3] 34/\TrP W.heap.size w5 129 (.agg #[.int .i64 k2,.string x2,.string a2,.slice ad2 len2 cap2]) R1):=by
  rw[hKF,hKT];exact⟨N5.1,N5.2.1,N5.2.2.1,N5.2.2.2.1,N5.2.2.2.2.1,N5.2.2.2.2.2.1⟩
 have hK5:K1<KT/\KT<KF:=⟨by have:=N5.2.2.2.2.2.2.1;omega,by omega⟩;rw[<-hKF,<-hKT];clear N5 hKF hKT;obtain⟨f0,f1⟩:=HS.out.2.2.2.2.1.c2;have f2:=HS.out.2.2.2.2.1.fz 0;have f3:=HS.out.2.2.2.2.1.fz 1;obtain⟨t0,t1,t2,t3⟩:=HS.out.2.2.2.1.c4;have HRI:Hid (Calls Tryz.prog 16 #[.agg #[.int .i64 k2,.string x2,.string a2,.slice ad2 len2 cap2]] w5 fun e w'=>e=.returned (.bool (rgh 129 R1))/\Below w5.heap.size w5 w'):=right_big HBR.out (TrP.v HS.out.2.2.2.2.2) (HTb.out.later HS.out.1);have hkf:KF≠K0/\KF≠K1/\KT≠K0/\KT≠K1/\KT≠KF:=by omega
 have hkf1:=hkf.1;have hkf2:=hkf.2.1;have hkf3:=hkf.2.2.1;have hkf4:=hkf.2.2.2.1;have hkf5:=hkf.2.2.2.2;have hkf6:KF≠KT:=fun e=>hkf5 e.symm
 by_cases hy:R2=0
 ·subst hy;cases hr:rgh 129 R1
  ·have HV:Hid (PM=(tr0,5,R3)):=by show PM=_;rw[HPM.out,if_neg (by simp),if_pos hr]
   clear HPM;rw[hr]at HRI;go_wp2_with fail;refine HRI.out.mono ?_;rintro e w6 ⟨rfl,H6⟩;have e0:=HS.out.2.2.2.2.1.later H6;obtain⟨f0,f1⟩:=e0.c2;have f2:=e0.fz 0;have f3:=e0.fz 1;have HX:Hid (Below w.heap.size w (w6.setCell ⟨KF,0,none⟩ (.int .i64 5))/\Bx (w6.setCell ⟨KF,0,none⟩ (.int .i64 5)) K0 zT 26/\Bx (w6.setCell ⟨KF,0,none⟩ (.int .i64 5)) K1 #[.int .i64 0,.int .i64 0] 34/\Bx (w6.setCell ⟨KF,0,none⟩ (.int .i64 5)) KF #[.int .i64 5,.int .i64 R3] 34):=⟨(HS.out.1.trans (H6.mono HS.out.1.size)).setCell (p:=⟨KF,0,none⟩) (by show _<=KF;omega) _,(HS.out.2.1.later H6).other (fun e=>hkf1 e.symm) _ _,(HS.out.2.2.1.later H6).other (fun e=>hkf2 e.symm) _ _,e0.set 0 _⟩;clear HS H6 t0 t1 t2 t3 HRI e0;go_upto_region 4 with fail
   generalize w6.setCell ⟨KF,0,none⟩ (.int .i64 5)=w7 at HX |-;clear f0 f1 f2 f3;obtain⟨f0,f1⟩:=HX.out.2.2.2.c2;have HQ:Hid (Below w.heap.size w w7/\Bx w7 K0 zT 26/\Bx w7 K1 #[.int .i64 0,.int .i64 0] 34):=⟨HX.out.1,HX.out.2.1,HX.out.2.2.1⟩;clear HX;obtain⟨d0,d1,d2,d3,d4,d5,z0,z1,z2,z3,z4,z5⟩:=c6_of HQ.out.2.1 HQ.out.2.2;have HF:Hid (_/\_/\_):=fill6_is HQ.out.2.1 HQ.out.2.2 hn01 HQ.out.1 (by omega) (by omega) (.int .i64 0) (.string ⟨#[]⟩) (.string ⟨#[]⟩) (.slice none 0 0) (.int .i64 5) (.int .i64 R3);clear HQ;go_wp2_with fail;go_region
   all_goals
    go_wp2;change bodyPost _ _ _ _ _ (fill6 w7 K0 K1 (.int .i64 0) (.string ⟨#[]⟩) (.string ⟨#[]⟩) (.slice none 0 0) (.int .i64 5) (.int .i64 R3)).drew;generalize fill6 w7 K0 K1 (.int .i64 0) (.string ⟨#[]⟩) (.string ⟨#[]⟩) (.slice none 0 0) (.int .i64 5) (.int .i64 R3)=WF at HF |-;have j0:WF.drew.cell? ⟨K0,0,none⟩=_:=HF.out.2.1.cell 0;have j1:WF.drew.cell? ⟨K0,1,none⟩=_:=HF.out.2.1.cell 1;have j2:WF.drew.cell? ⟨K0,2,none⟩=_:=HF.out.2.1.cell 2;have j3:WF.drew.cell? ⟨K0,3,none⟩=_:=HF.out.2.1.cell 3;have j4:WF.drew.cell? ⟨K1,0,none⟩=_:=HF.out.2.2.cell 0;have j5:WF.drew.cell? ⟨K1,1,none⟩=_:=HF.out.2.2.cell 1;refine bodyPost_ret (v:=.tuple #[.agg #[.int .i64 0,.string ⟨#[]⟩,.string ⟨#[]⟩,.slice none 0 0],.agg #[.int .i64 5,.int .i64 R3]]) (by simp[results,Tryz.results17,go_sem,j0,j1,j2,j3,j4,j5]) rfl ?_;rw[HV.out];exact⟨_,rfl,TrP.leaf 0 [] [] (by decide) (by decide) (by decide) 128,HF.out.1.drew⟩
  ·have HV:Hid (PM=(R1,0,0)):=by show PM=_;rw[HPM.out,if_neg (by simp),if_neg (by rw[hr];simp)]
   clear HPM;rw[hr]at HRI;go_wp2_with fail;refine HRI.out.mono ?_;rintro e w6 ⟨rfl,H6⟩;have HS6:Hid (Below w.heap.size w w6/\Bx w6 K0 zT 26/\Bx w6 K1 #[.int .i64 0,.int .i64 0] 34/\Bx w6 KT #[.int .i64 k2,.string x2,.string a2,.slice ad2 len2 cap2] 26/\Bx w6 KF #[.int .i64 0,.int .i64 R3] 34/\TrP W.heap.size w6 129 (.agg #[.int .i64 k2,.string x2,.string a2,.slice ad2 len2 cap2]) R1):=⟨HS.out.1.trans (H6.mono HS.out.1.size),HS.out.2.1.later H6,HS.out.2.2.1.later H6,HS.out.2.2.2.1.later H6,HS.out.2.2.2.2.1.later H6,HS.out.2.2.2.2.2.later H6⟩;clear HS H6 f0 f1 f2 f3 t0 t1 t2 t3 HRI;have f0:w6.cell? ⟨KF,0,none⟩=some (.int .i64 0):=HS6.out.2.2.2.2.1.cell 0;obtain⟨t0,t1,t2,t3⟩:=HS6.out.2.2.2.1.c4;obtain⟨d0,d1,d2,d3,d4,d5,z0,z1,z2,z3,z4,z5⟩:=c6_of HS6.out.2.1 HS6.out.2.2.1;have HF:Hid (_/\_/\_):=fill6_is HS6.out.2.1 HS6.out.2.2.1 hn01 HS6.out.1 (by omega) (by omega) (.int .i64 k2) (.string x2) (.string a2) (.slice ad2 len2 cap2) (.int .i64 0) (.int .i64 0);have hq0:K0<W.heap.size:=by omega
   have HTF:Hid (TrP w.heap.size (fill6 w6 K0 K1 (.int .i64 k2) (.string x2) (.string a2) (.slice ad2 len2 cap2) (.int .i64 0) (.int .i64 0)) 129 (.agg #[.int .i64 k2,.string x2,.string a2,.slice ad2 len2 cap2]) R1):=TrP.mono (c:=W.heap.size) (by omega) ((((((HS6.out.2.2.2.2.2.set hq0).set hq0).set hq0).set hq0).set hK1W).set hK1W);clear HS6;go_wp2;change bodyPost _ _ _ _ _ (fill6 w6 K0 K1 (.int .i64 k2) (.string x2) (.string a2) (.slice ad2 len2 cap2) (.int .i64 0) (.int .i64 0));generalize fill6 w6 K0 K1 (.int .i64 k2) (.string x2) (.string a2) (.slice ad2 len2 cap2) (.int .i64 0) (.int .i64 0)=WF at HF HTF |-;have j0:WF.cell? ⟨K0,0,none⟩=_:=HF.out.2.1.cell 0;have j1:WF.cell? ⟨K0,1,none⟩=_:=HF.out.2.1.cell 1;have j2:WF.cell? ⟨K0,2,none⟩=_:=HF.out.2.1.cell 2;have j3:WF.cell? ⟨K0,3,none⟩=_:=HF.out.2.1.cell 3;have j4:WF.cell? ⟨K1,0,none⟩=_:=HF.out.2.2.cell 0;have j5:WF.cell? ⟨K1,1,none⟩=_:=HF.out.2.2.cell 1;refine bodyPost_ret (v:=.tuple #[.agg #[.int .i64 k2,.string x2,.string a2,.slice ad2 len2 cap2],.agg #[.int .i64 0,.int .i64 0]]) (by simp[results,Tryz.results17,go_sem,j0,j1,j2,j3,j4,j5]) rfl ?_;rw[HV.out];exact⟨_,rfl,HTF.out,HF.out.1⟩
 ·have HV:Hid (PM=(tr0,R2,R3)):=by show PM=_;rw[HPM.out,if_pos hy]
  clear HPM;have hyb:(R2==0)=false:=by rw[beq_eq_false_iff_ne];exact hy
  have hyn:(R2 != 0)=true:=by simpa using hy
  have HQ:Hid (Below w.heap.size w w5/\Bx w5 K0 zT 26/\Bx w5 K1 #[.int .i64 0,.int .i64 0] 34):=⟨HS.out.1,HS.out.2.1,HS.out.2.2.1⟩;clear HS HRI;obtain⟨d0,d1,d2,d3,d4,d5,z0,z1,z2,z3,z4,z5⟩:=c6_of HQ.out.2.1 HQ.out.2.2;have HF:Hid (_/\_/\_):=fill6_is HQ.out.2.1 HQ.out.2.2 hn01 HQ.out.1 (by omega) (by omega) (.int .i64 0) (.string ⟨#[]⟩) (.string ⟨#[]⟩) (.slice none 0 0) (.int .i64 R2) (.int .i64 R3);clear HQ;go_wp2_with fail;go_region
  all_goals
   go_wp2;change bodyPost _ _ _ _ _ (fill6 w5 K0 K1 (.int .i64 0) (.string ⟨#[]⟩) (.string ⟨#[]⟩) (.slice none 0 0) (.int .i64 R2) (.int .i64 R3)).drew;generalize fill6 w5 K0 K1 (.int .i64 0) (.string ⟨#[]⟩) (.string ⟨#[]⟩) (.slice none 0 0) (.int .i64 R2) (.int .i64 R3)=WF at HF |-;have j0:WF.drew.cell? ⟨K0,0,none⟩=_:=HF.out.2.1.cell 0;have j1:WF.drew.cell? ⟨K0,1,none⟩=_:=HF.out.2.1.cell 1;have j2:WF.drew.cell? ⟨K0,2,none⟩=_:=HF.out.2.1.cell 2;have j3:WF.drew.cell? ⟨K0,3,none⟩=_:=HF.out.2.1.cell 3;have j4:WF.drew.cell? ⟨K1,0,none⟩=_:=HF.out.2.2.cell 0;have j5:WF.drew.cell? ⟨K1,1,none⟩=_:=HF.out.2.2.cell 1;refine bodyPost_ret (v:=.tuple #[.agg #[.int .i64 0,.string ⟨#[]⟩,.string ⟨#[]⟩,.slice none 0 0],.agg #[.int .i64 R2,.int .i64 R3]]) (by simp[results,Tryz.results17,go_sem,j0,j1,j2,j3,j4,j5]) rfl ?_;rw[HV.out];exact⟨_,rfl,TrP.leaf 0 [] [] (by decide) (by decide) (by decide) 128,HF.out.1.drew⟩
end Tre
end Go.Proofs.YtommfbbpomfnfaaGreatDoor
