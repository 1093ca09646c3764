/- . -/
import Derived.Test.YtalijhclfppohaaGreatDoorR45TreeJoin
import Derived.Test.YtalijhclfppohaaGreatDoorR26FlowAllow
import Derived.Test.YtalijhclfppohaaGreatDoorR14BlockMem
import Derived.Test.YtalijhclfppohaaGreatDoorR29BlockStep
import Derived.Test.YtalijhclfppohaaGreatDoorR23RowsNum
import Derived.Test.YtalijhclfppohaaGreatDoorR19LoadTm
set_option linter.unusedSimpArgs false
set_option linter.unusedVariables false
set_option maxRecDepth 100000
namespace Go.Proofs.YtalijhclfppohaaGreatDoor
namespace Tre
open Utf Rws Pln Flw
open Go.RowKit
open Blk (Rw RwAt z3 lo rws joinW trm fld headO hdV)
set_option maxHeartbeats 1000000
abbrev brT (d:Nat) (t:Tr):Prop:=bri 2147483648 d t
theorem brT_leaf {d:Nat} (hd:1<=d) {t:Tr} (h1:t.text.length<=2147483648) (h2:t.anc.length<=2147483648) (h3:t.kids=[]):brT d t:=by
 obtain⟨e,rfl⟩:∃ e,d=e+1:=⟨d-1,by omega⟩;exact⟨h1,h2,fun i hi=>by rw[h3]at hi;exact absurd hi (Nat.not_lt_zero _)⟩
theorem brT_zero {d:Nat} (hd:1<=d):brT d tr0:=brT_leaf hd (by decide) (by decide) rfl
theorem orM_bri {d:Nat} (hd:1<=d) {h:Hd} {t:Tr} (hb:brT d t) (ha:h.2.anc.length<=65536):brT d (orM h t).1:=by
 unfold orM;split
 ·exact hb
 ·split
  ·exact brT_zero hd
  ·split
   ·exact brT_zero hd
   ·obtain⟨e,rfl⟩:∃ e,d=e+1:=⟨d-1,by omega⟩;exact⟨hb.1,Nat.le_trans ha (by decide),hb.2.2⟩
theorem noM_bri {d:Nat} (hd:1<=d) {h:Hd} (ha:h.2.anc.length<=65536):brT d (noM h).1:=by
 unfold noM;split
 ·exact brT_zero hd
 ·exact brT_leaf hd (by simp) (Nat.le_trans ha (by decide)) rfl
theorem bak_bri {d:Nat} (hd:1<=d):∀ (hs:List Hd) (r:Tf),(∀ h∈hs,h.2.anc.length<=65536)->brT d r.1->brT d (bak hs r).1
 | [],r,_,hb=>hb
 | h::hs,r,ha,hb=>by
  rw[bak];split
  ·exact brT_zero hd
  ·exact bak_bri hd hs _ (fun q hq=>ha q (by simp[hq])) (orM_bri hd hb (ha h (by simp)))
theorem beM_bri {d:Nat} (hd:1<=d) {val:Rw->List Rw->Tf} {dp:Bool} {h:Hd} {rs:List Rw} (ht:∀ r∈rs,r.2.1.length<=65536) (ha:h.2.anc.length<=65536) (hv:∀ r rest,(r::rest) <:+ rs->brT d (val r rest).1):brT d (beM val dp h rs).1:=by
 unfold beM;dsimp only;have hs:=hds_suffix dp (rs.length+1) h.1.1 rs;have han:=hds_anc dp (rs.length+1) h.1.1 rs ht
 have hall:∀ q∈(h::(hds dp (rs.length+1) h.1.1 rs).1).reverse,q.2.anc.length<=65536:=fun q hq=>by
  rcases List.mem_cons.1 (List.mem_reverse.1 hq)with rfl | hq
  ·exact ha
  ·exact han q hq
 split
 ·exact brT_zero hd
 ·cases hr:(hds dp (rs.length+1) h.1.1 rs).2.1 with
  | cons r rest =>
   rw[hr]at hs;exact bak_bri hd _ _ hall (hv r rest hs)
  | nil =>
   dsimp only;refine bak_bri hd _ _ (fun q hq=>hall q (List.mem_of_mem_tail hq)) (noM_bri hd ?_)
   cases hrv:(h::(hds dp (rs.length+1) h.1.1 rs).1).reverse with
   | nil=>exact ha
   | cons q l=>rw[hrv]at hall;exact hall q (by simp)
theorem rea_bri {l:Ln} (hl:l.length<=65536):brT 65 (rea l false).1:=by
 unfold rea;have h:=val_l 64 false l
 cases hq:lval 64 false l with
 | error e=>exact brT_zero (by decide)
 | ok x =>
  rw[hq]at h
  cases hv:val 64 false l with
  | error e=>rw[hv]at h;cases h
  | ok y =>
   rw[hv]at h;obtain⟨m,h2,_⟩:=h;have h3:x=(y.1,m):=by injection h2
   rw[h3];exact bri.mono (by decide) (val_short 64 false l y hl hv)
theorem lnM_bri {c z:Int} {l:Ln} {rs:List Rw} (hl:l.length<=65536):brT 65 (lnM c z l rs).1:=by
 unfold lnM;split
 ·exact rea_bri hl
 ·split<;>exact rea_bri hl
theorem blM_bri {d:Nat} (hd:1<=d) {c z:Int} {p:Pp} {f:Bool} {ch:Int} {rs:List Rw} (hg:Good rs) (hp:p.anc.length<=65536):brT d (blM c z p f ch rs).1:=by
 unfold blM
 cases hq:lo none (rws rs c)with
 | inr x=>exact brT_zero hd
 | inl ls =>
  dsimp only;split
  ·exact brT_zero hd
  ·have h3:=hg.bk rs (List.infix_refl _) c ls hq
   have h4:ls.length<=1048576:=by
    have h5:=Blk.lo_len none _ _ hq;have h6:(rws rs c).length<=rs.length:=(List.takeWhile_prefix _).length_le;have:=hg.len;omega
   exact brT_leaf hd (Nat.le_trans (txt_len h3.1 h3.2 h4) (by decide)) (Nat.le_trans hp (by decide)) rfl
theorem meM_bri {d:Nat} (hd:65<=d) {val:Int->Rw->List Rw->Tf} {ar:Int} {r:Rw} {l:Ln} {u:List Rw} (hl:l.length<=65536) (hg:Good u) (hv:∀ q rest,(q::rest) <:+ u->brT d (val ar q rest).1):brT d (meM val ar r l u).1:=by
 have h1:=CP_anc l;unfold meM mnM;split
 ·exact beM_bri (by omega) hg.txt (by show (CP ⟨[],0⟩ l).1.anc.length<=_;omega) hv
 ·split
  ·exact blM_bri (by omega) hg (by omega)
  ·exact bri.more (lnM_bri hl) hd
theorem kiM_bri {d:Nat} {part:Rw->List Rw->List Tr × Int × Int} (c:Int):∀ (n:Nat) (r:Rw) (more:List Rw) (acc:List Tr),(∀ q us,(q::us) <:+: (r::more)->∀ k∈(part q us).1,brT d k)->(∀ k∈acc,brT d k)->∀ k∈(kiM part c n r more acc).1,brT d k
 | 0,_,_,_,_,_,k,hk=>by cases hk
 | n+1,r,more,acc,hp,ha,k,hk=>by
  rw[kiM]at hk
  have h0:∀ k∈acc++(part r (more.take (dpn more c))).1,brT d k:=fun k hk=>by
   rcases List.mem_append.1 hk with h | h
   ·exact ha k h
   ·exact hp r _ ⟨[],more.drop (dpn more c),by simp⟩ k h
  split at hk
  ·cases hk
  ·cases hd:more.drop (dpn more c)with
   | nil=>rw[hd]at hk;exact h0 k hk
   | cons r' rest =>
    rw[hd]at hk;dsimp only at hk;have hs:(r'::rest) <:+ (r::more):=by rw[<-hd];exact(List.drop_suffix _ _).trans (List.suffix_cons _ _)
    split at hk
    ·cases hk
    ·exact kiM_bri c n r' rest _ (fun q us hq=>hp q us (hq.trans hs.isInfix)) h0 k hk
theorem brT_node {d:Nat} {k:Int} {ks:List Tr} (h:∀ t∈ks,brT d t):brT (d+1) ⟨k,[],[],ks⟩ :=
 ⟨Nat.zero_le _,Nat.zero_le _,fun i hi=>h _ (getD_mem hi)⟩
theorem vaM_bri:∀ (n:Nat) (ar:Int) (r:Rw) (rs:List Rw),0<=ar->ar<=64->r.2.1.length<=65536->Good rs->brT (dpt ar) (vaM n ar r rs).1
 | 0,ar,_,_,h0,h1,_,_=>brT_zero (by unfold dpt;omega)
 | n+1,ar,r,rs,h0,h1,hx,hg=>by
  have hd1:65<=dpt ar:=by unfold dpt;omega
  rw[vaM];split
  ·exact brT_zero (by omega)
  ·rename_i har;have hd:dpt ar=dpt (ar+1)+1:=by unfold dpt;omega
   have hd2:65<=dpt (ar+1):=by unfold dpt;omega
   have htx:∀ (q:Rw) (us:List Rw),(q::us) <:+: (r::rs)->q.2.1.length<=65536:=fun q us hi=>by
    rcases List.mem_cons.1 (hi.subset (show q∈q::us by simp))with rfl | h
    ·exact hx
    ·exact hg.txt q h
   have hvs:∀ (a:Int),0<=a->a<=64->∀ us,us <:+: rs->∀ q rest,(q::rest) <:+ us->brT (dpt a) (vaM n a q rest).1:=fun a ha hb us hu q rest hq =>
    vaM_bri n a q rest ha hb (hg.txt q (hu.subset (hq.subset (by simp)))) (hg.sub (((List.suffix_cons q rest).trans hq).isInfix.trans hu))
   split
   ·rw[hd];refine brT_node (kiM_bri r.1 _ r rs [] (fun q us hi k hk=> ?_) (fun k hk=>by cases hk));have hu:=inf_tail hi;have hq:=htx q us hi;unfold itP at hk;split at hk
    ·cases hk
    ·rename_i hit;have hit2:isIt q.2.1=true:=by simpa using hit
     have hlt:=itR_len hit2;split at hk
     ·rw[List.mem_singleton]at hk;rw[hk];exact vaM_bri n (ar+1) _ us (by omega) (by omega) (by show (itR q.2.1).length<=_;omega) (hg.sub hu)
     ·rw[List.mem_singleton]at hk;rw[hk];exact meM_bri hd2 (by omega) (hg.sub hu) (hvs (ar+1) (by omega) (by omega) us hu)
   ·split
    ·rw[hd];refine brT_node (kiM_bri r.1 _ r rs [] (fun q us hi k hk=> ?_) (fun k hk=>by cases hk));have hu:=inf_tail hi;have hq:=htx q us hi;unfold enP at hk;split at hk
     ·cases hk
     ·split at hk
      ·cases hk
      ·have h2:=(en_bdT q.2.1).2;have h3:=enR_len q.2.1;rcases List.mem_cons.1 hk with rfl | hk
       ·exact brT_leaf (by omega) (by show (enT q.2.1).text.length<=_;omega) (by simp) rfl
       ·rw[List.mem_singleton]at hk;rw[hk];exact meM_bri hd2 (by omega) (hg.sub hu) (hvs (ar+1) (by omega) (by omega) us hu)
    ·exact meM_bri hd1 hx hg (hvs ar h0 h1 rs (List.infix_refl _))
end Tre
namespace Tre
open Utf Rws Pln Flw
open Go.RowKit
open Blk (Rw RwAt z3)
set_option maxHeartbeats 8000000
def top:Hd:=((-9223372036854775808,[],0),⟨[],0⟩)
def paM (n:Nat) (rs:List Rw):Tf :=
 if (beM (vaM n 0) false top rs).2.1≠0 then (tr0,(beM (vaM n 0) false top rs).2)else
 if rgh 129 (beM (vaM n 0) false top rs).1=false then (tr0,5,(beM (vaM n 0) false top rs).2.2)else ((beM (vaM n 0) false top rs).1,0,0)
theorem two_b (w:World) (c0 c1:Array Value) (t0 t1:TypeId):Below w.heap.size w ((w.alloc (.cells c0 t0)).alloc (.cells c1 t1))/\Bx ((w.alloc (.cells c0 t0)).alloc (.cells c1 t1)) w.heap.size c0 t0/\Bx ((w.alloc (.cells c0 t0)).alloc (.cells c1 t1)) (w.heap.size+1) c1 t1:=two_new w c0 c1 t0 t1
theorem parse_any (n:Nat) (a:Option Addr) (len cap:Nat) (rs:List Rw) (w:World) (hT:Tb w) (hR:RowsIn w a len cap rs) (hg:Good rs) (hm:msr rs<n) :
  Calls Tryz.prog 17 #[.slice a len cap] w fun e w'=>TfD 129 (paM n rs) w e w':=by
 have HBE:Hid (∀ w0,Below w.heap.size w w0->Calls Tryz.prog 26 #[.int .i64 0,.agg #[.int .i64 (-9223372036854775808),.string ⟨#[]⟩,.int .i64 0],.agg #[.string ⟨#[]⟩,.int .i64 0],.slice a len cap] w0 fun e w'=>TfD 129 (beM (vaM n 0) false top rs) w0 e w'):=fun w0 hb =>
  below_join 129 (by decide) 0 (-9223372036854775808) [] 0 ⟨[],0⟩ a len cap rs w0 (hR.later hb) hg (by decide) (vaM n 0) (fun r rest hs a' len' cap' w1 hr1 hb1=>by
   have hq:r∈rs:=hs.subset (by simp);exact value_ih n 0 r a' len' cap' rest w1 (by decide) (by decide) (hg.txt r hq) (hg.col r hq) (hT.later (hb.trans (hb1.mono hb.size))) hr1 (hg.sub ((List.suffix_cons r rest).trans hs).isInfix) (Nat.lt_of_le_of_lt (msr_sub hs.isInfix) hm))
 have HBR:Hid (brT 129 (beM (vaM n 0) false top rs).1):=beM_bri (by decide) hg.txt (by decide) (fun r rest hs=>vaM_bri n 0 r rest (by decide) (by decide) (hg.txt r (hs.subset (by simp))) (hg.sub ((List.suffix_cons r rest).trans hs).isInfix));have HTb:Hid (Tb w):=hT;unfold paM;generalize beM (vaM n 0) false top rs=R at HBE HBR |-;clear hR hg hm hT;obtain⟨R1,R2,R3⟩:=R;dsimp only at HBR |-;obtain⟨PM,HPM⟩:∃ PM,Hid (PM=if R2≠0 then (tr0,R2,R3)else if rgh 129 R1=false then (tr0,5,R3)else (R1,0,0)):=⟨_,rfl⟩;rw[<-HPM.out];have N2:Hid (_/\_/\_):=two_b w zT #[.int .i64 0,.int .i64 0] 35 32;go_enter Tryz.func17,Tryz.ntmps17;go_wp2_with fail;change Calls _ _ _ ((w.alloc (.cells zT 35)).alloc (.cells #[.int .i64 0,.int .i64 0] 32)) _;generalize (w.alloc (.cells zT 35)).alloc (.cells #[.int .i64 0,.int .i64 0] 32)=W at N2 |-;obtain⟨K1,hK1⟩:∃ K,K=w.heap.size+1:=⟨_,rfl⟩;obtain⟨K0,hK0⟩:∃ K,K=w.heap.size:=⟨_,rfl⟩
 have HB:Hid (Below w.heap.size w W/\Bx W K0 zT 35/\Bx W K1 #[.int .i64 0,.int .i64 0] 32):=by
  rw[hK0,hK1];exact N2.out
 rw[<-hK1,<-hK0];have hK:w.heap.size<=K0/\K0<K1:=by omega
 have hn01:K0≠K1:=by omega
 have hn10:K1≠K0:=by omega
 clear N2 hK0 hK1;refine(HBE.out W HB.out.1).mono ?_;rintro e w3 ⟨v,rfl,ht,hb3⟩;obtain⟨k2,x2,a2,ad2,len2,cap2,rfl⟩:=ht.cells
 have H5:Hid (∀ w5,w5=(w3.alloc (.cells #[.int .i64 k2,.string x2,.string a2,.slice ad2 len2 cap2] 35)).alloc (.cells #[.int .i64 R2,.int .i64 R3] 32)->Below w.heap.size w w5/\Bx w5 K0 zT 35/\Bx w5 K1 #[.int .i64 0,.int .i64 0] 32/\Bx w5 w3.heap.size #[.int .i64 k2,.string x2,.string a2,.slice ad2 len2 cap2] 35/\Bx w5 (w3.heap.size+1) #[.int .i64 R2,.int .i64 R3] 32/\TrP W.heap.size w5 129 (.agg #[.int .i64 k2,.string x2,.string a2,.slice ad2 len2 cap2]) R1/\K1<w3.heap.size/\W.heap.size<=w3.heap.size):=fun w5 e=>by
  subst e;have h2:=two_b w3 #[.int .i64 k2,.string x2,.string a2,.slice ad2 len2 cap2] #[.int .i64 R2,.int .i64 R3] 35 32;have b:=hb3.trans (h2.1.mono hb3.size);exact⟨HB.out.1.trans (b.mono HB.out.1.size),HB.out.2.1.later b,HB.out.2.2.later b,h2.2.1,h2.2.2,ht.later h2.1,Nat.lt_of_lt_of_le HB.out.2.2.lt hb3.size,hb3.size⟩
 have hK1W:K1<W.heap.size:=HB.out.2.2.lt;clear ht hb3 HB HBE;go_upto_region 2 with fail
 have N5:=H5.out _ rfl;clear H5;change Code.wp _ _ _ _ ((w3.alloc (.cells #[.int .i64 k2,.string x2,.string a2,.slice ad2 len2 cap2] 35)).alloc (.cells #[.int .i64 R2,.int .i64 R3] 32));generalize (w3.alloc (.cells #[.int .i64 k2,.string x2,.string a2,.slice ad2 len2 cap2] 35)).alloc (.cells #[.int .i64 R2,.int .i64 R3] 32)=w5 at N5 |-;obtain⟨KF,hKF⟩:∃ K,K=w3.heap.size+1:=⟨_,rfl⟩;obtain⟨KT,hKT⟩:∃ K,K=w3.heap.size:=⟨_,rfl⟩
 have HS:Hid (Below w.heap.size w w5/\Bx w5 K0 zT 35/\Bx w5 K1 #[.int .i64 0,.int .i64 0] 32/\Bx w5 KT #[.int .i64 k2,.string x2,.string a2,.slice ad2 len2 cap2] 35/\Bx w5 KF #[.int .i64 R2,.int .i64 R3] 32/\TrP W.heap.size w5 129 (.agg #[.int .i64 k2,.string x2,.string a2,.slice ad2 len2 cap2]) R1):=by
  rw[hKF,hKT];exact⟨N5.1,N5.2.1,N5.2.2.1,N5.2.2.2.1,N5.2.2.2.2.1,N5.2.2.2.2.2.1⟩
 have hK5:K1<KT/\KT<KF:=⟨by have:=N5.2.2.2.2.2.2.1;omega,by omega⟩;rw[<-hKF,<-hKT];clear N5 hKF hKT;obtain⟨f0,f1⟩:=HS.out.2.2.2.2.1.c2;have f2:=HS.out.2.2.2.2.1.fz 0;have f3:=HS.out.2.2.2.2.1.fz 1;obtain⟨t0,t1,t2,t3⟩:=HS.out.2.2.2.1.c4;have HRI:Hid (Calls Tryz.prog 27 #[.agg #[.int .i64 k2,.string x2,.string a2,.slice ad2 len2 cap2]] w5 fun e w'=>e=.returned (.bool (rgh 129 R1))/\Below w5.heap.size w5 w'):=right_big HBR.out (TrP.v HS.out.2.2.2.2.2) (HTb.out.later HS.out.1);have hkf:KF≠K0/\KF≠K1/\KT≠K0/\KT≠K1/\KT≠KF:=by omega
 have hkf1:=hkf.1;have hkf2:=hkf.2.1;have hkf3:=hkf.2.2.1;have hkf4:=hkf.2.2.2.1;have hkf5:=hkf.2.2.2.2;have hkf6:KF≠KT:=fun e=>hkf5 e.symm
 by_cases hy:R2=0
 ·subst hy;cases hr:rgh 129 R1
  ·have HV:Hid (PM=(tr0,5,R3)):=by show PM=_;rw[HPM.out,if_neg (by simp),if_pos hr]
   clear HPM;rw[hr]at HRI;go_wp2_with fail;refine HRI.out.mono ?_;rintro e w6 ⟨rfl,H6⟩;have e0:=HS.out.2.2.2.2.1.later H6;obtain⟨f0,f1⟩:=e0.c2;have f2:=e0.fz 0;have f3:=e0.fz 1;have HX:Hid (Below w.heap.size w (w6.setCell ⟨KF,0,none⟩ (.int .i64 5))/\Bx (w6.setCell ⟨KF,0,none⟩ (.int .i64 5)) K0 zT 35/\Bx (w6.setCell ⟨KF,0,none⟩ (.int .i64 5)) K1 #[.int .i64 0,.int .i64 0] 32/\Bx (w6.setCell ⟨KF,0,none⟩ (.int .i64 5)) KF #[.int .i64 5,.int .i64 R3] 32):=⟨(HS.out.1.trans (H6.mono HS.out.1.size)).setCell (p:=⟨KF,0,none⟩) (by show _<=KF;omega) _,(HS.out.2.1.later H6).other (fun e=>hkf1 e.symm) _ _,(HS.out.2.2.1.later H6).other (fun e=>hkf2 e.symm) _ _,e0.set 0 _⟩;clear HS H6 t0 t1 t2 t3 HRI e0;go_upto_region 4 with fail
   generalize w6.setCell ⟨KF,0,none⟩ (.int .i64 5)=w7 at HX |-;clear f0 f1 f2 f3;obtain⟨f0,f1⟩:=HX.out.2.2.2.c2;have HQ:Hid (Below w.heap.size w w7/\Bx w7 K0 zT 35/\Bx w7 K1 #[.int .i64 0,.int .i64 0] 32):=⟨HX.out.1,HX.out.2.1,HX.out.2.2.1⟩;clear HX;obtain⟨d0,d1,d2,d3,d4,d5,z0,z1,z2,z3,z4,z5⟩:=c6_of HQ.out.2.1 HQ.out.2.2;have HF:Hid (_/\_/\_):=fill6_is HQ.out.2.1 HQ.out.2.2 hn01 HQ.out.1 (by omega) (by omega) (.int .i64 0) (.string ⟨#[]⟩) (.string ⟨#[]⟩) (.slice none 0 0) (.int .i64 5) (.int .i64 R3);clear HQ;go_wp2_with fail;go_region
   all_goals
    go_wp2;change bodyPost _ _ _ _ _ (fill6 w7 K0 K1 (.int .i64 0) (.string ⟨#[]⟩) (.string ⟨#[]⟩) (.slice none 0 0) (.int .i64 5) (.int .i64 R3)).drew;generalize fill6 w7 K0 K1 (.int .i64 0) (.string ⟨#[]⟩) (.string ⟨#[]⟩) (.slice none 0 0) (.int .i64 5) (.int .i64 R3)=WF at HF |-;have j0:WF.drew.cell? ⟨K0,0,none⟩=_:=HF.out.2.1.cell 0;have j1:WF.drew.cell? ⟨K0,1,none⟩=_:=HF.out.2.1.cell 1;have j2:WF.drew.cell? ⟨K0,2,none⟩=_:=HF.out.2.1.cell 2;have j3:WF.drew.cell? ⟨K0,3,none⟩=_:=HF.out.2.1.cell 3;have j4:WF.drew.cell? ⟨K1,0,none⟩=_:=HF.out.2.2.cell 0;have j5:WF.drew.cell? ⟨K1,1,none⟩=_:=HF.out.2.2.cell 1;refine bodyPost_ret (v:=.tuple #[.agg #[.int .i64 0,.string ⟨#[]⟩,.string ⟨#[]⟩,.slice none 0 0],.agg #[.int .i64 5,.int .i64 R3]]) (by simp[results,Tryz.results17,go_sem,j0,j1,j2,j3,j4,j5]) rfl ?_;rw[HV.out];exact⟨_,rfl,TrP.leaf 0 [] [] (by decide) (by decide) (by decide) 128,HF.out.1.drew⟩
  ·have HV:Hid (PM=(R1,0,0)):=by show PM=_;rw[HPM.out,if_neg (by simp),if_neg (by rw[hr];simp)]
   clear HPM;rw[hr]at HRI;go_wp2_with fail;refine HRI.out.mono ?_;rintro e w6 ⟨rfl,H6⟩;have HS6:Hid (Below w.heap.size w w6/\Bx w6 K0 zT 35/\Bx w6 K1 #[.int .i64 0,.int .i64 0] 32/\Bx w6 KT #[.int .i64 k2,.string x2,.string a2,.slice ad2 len2 cap2] 35/\Bx w6 KF #[.int .i64 0,.int .i64 R3] 32/\TrP W.heap.size w6 129 (.agg #[.int .i64 k2,.string x2,.string a2,.slice ad2 len2 cap2]) R1):=⟨HS.out.1.trans (H6.mono HS.out.1.size),HS.out.2.1.later H6,HS.out.2.2.1.later H6,HS.out.2.2.2.1.later H6,HS.out.2.2.2.2.1.later H6,HS.out.2.2.2.2.2.later H6⟩;clear HS H6 f0 f1 f2 f3 t0 t1 t2 t3 HRI;have f0:w6.cell? ⟨KF,0,none⟩=some (.int .i64 0):=HS6.out.2.2.2.2.1.cell 0;obtain⟨t0,t1,t2,t3⟩:=HS6.out.2.2.2.1.c4;obtain⟨d0,d1,d2,d3,d4,d5,z0,z1,z2,z3,z4,z5⟩:=c6_of HS6.out.2.1 HS6.out.2.2.1;have HF:Hid (_/\_/\_):=fill6_is HS6.out.2.1 HS6.out.2.2.1 hn01 HS6.out.1 (by omega) (by omega) (.int .i64 k2) (.string x2) (.string a2) (.slice ad2 len2 cap2) (.int .i64 0) (.int .i64 0);have hq0:K0<W.heap.size:=by omega
   have HTF:Hid (TrP w.heap.size (fill6 w6 K0 K1 (.int .i64 k2) (.string x2) (.string a2) (.slice ad2 len2 cap2) (.int .i64 0) (.int .i64 0)) 129 (.agg #[.int .i64 k2,.string x2,.string a2,.slice ad2 len2 cap2]) R1):=TrP.mono (c:=W.heap.size) (by omega) ((((((HS6.out.2.2.2.2.2.set hq0).set hq0).set hq0).set hq0).set hK1W).set hK1W);clear HS6;go_wp2;change bodyPost _ _ _ _ _ (fill6 w6 K0 K1 (.int .i64 k2) (.string x2) (.string a2) (.slice ad2 len2 cap2) (.int .i64 0) (.int .i64 0));generalize fill6 w6 K0 K1 (.int .i64 k2) (.string x2) (.string a2) (.slice ad2 len2 cap2) (.int .i64 0) (.int .i64 0)=WF at HF HTF |-;have j0:WF.cell? ⟨K0,0,none⟩=_:=HF.out.2.1.cell 0;have j1:WF.cell? ⟨K0,1,none⟩=_:=HF.out.2.1.cell 1;have j2:WF.cell? ⟨K0,2,none⟩=_:=HF.out.2.1.cell 2;have j3:WF.cell? ⟨K0,3,none⟩=_:=HF.out.2.1.cell 3;have j4:WF.cell? ⟨K1,0,none⟩=_:=HF.out.2.2.cell 0;have j5:WF.cell? ⟨K1,1,none⟩=_:=HF.out.2.2.cell 1;refine bodyPost_ret (v:=.tuple #[.agg #[.int .i64 k2,.string x2,.string a2,.slice ad2 len2 cap2],.agg #[.int .i64 0,.int .i64 0]]) (by simp[results,Tryz.results17,go_sem,j0,j1,j2,j3,j4,j5]) rfl ?_;rw[HV.out];exact⟨_,rfl,HTF.out,HF.out.1⟩
 ·have HV:Hid (PM=(tr0,R2,R3)):=by show PM=_;rw[HPM.out,if_pos hy]
  clear HPM;have hyb:(R2==0)=false:=by rw[beq_eq_false_iff_ne];exact hy
  have hyn:(R2 != 0)=true:=by simpa using hy
  have HQ:Hid (Below w.heap.size w w5/\Bx w5 K0 zT 35/\Bx w5 K1 #[.int .i64 0,.int .i64 0] 32):=⟨HS.out.1,HS.out.2.1,HS.out.2.2.1⟩;clear HS HRI;obtain⟨d0,d1,d2,d3,d4,d5,z0,z1,z2,z3,z4,z5⟩:=c6_of HQ.out.2.1 HQ.out.2.2;have HF:Hid (_/\_/\_):=fill6_is HQ.out.2.1 HQ.out.2.2 hn01 HQ.out.1 (by omega) (by omega) (.int .i64 0) (.string ⟨#[]⟩) (.string ⟨#[]⟩) (.slice none 0 0) (.int .i64 R2) (.int .i64 R3);clear HQ;go_wp2_with fail;go_region
  all_goals
   go_wp2;change bodyPost _ _ _ _ _ (fill6 w5 K0 K1 (.int .i64 0) (.string ⟨#[]⟩) (.string ⟨#[]⟩) (.slice none 0 0) (.int .i64 R2) (.int .i64 R3)).drew;generalize fill6 w5 K0 K1 (.int .i64 0) (.string ⟨#[]⟩) (.string ⟨#[]⟩) (.slice none 0 0) (.int .i64 R2) (.int .i64 R3)=WF at HF |-;have j0:WF.drew.cell? ⟨K0,0,none⟩=_:=HF.out.2.1.cell 0;have j1:WF.drew.cell? ⟨K0,1,none⟩=_:=HF.out.2.1.cell 1;have j2:WF.drew.cell? ⟨K0,2,none⟩=_:=HF.out.2.1.cell 2;have j3:WF.drew.cell? ⟨K0,3,none⟩=_:=HF.out.2.1.cell 3;have j4:WF.drew.cell? ⟨K1,0,none⟩=_:=HF.out.2.2.cell 0;have j5:WF.drew.cell? ⟨K1,1,none⟩=_:=HF.out.2.2.cell 1;refine bodyPost_ret (v:=.tuple #[.agg #[.int .i64 0,.string ⟨#[]⟩,.string ⟨#[]⟩,.slice none 0 0],.agg #[.int .i64 R2,.int .i64 R3]]) (by simp[results,Tryz.results17,go_sem,j0,j1,j2,j3,j4,j5]) rfl ?_;rw[HV.out];exact⟨_,rfl,TrP.leaf 0 [] [] (by decide) (by decide) (by decide) 128,HF.out.1.drew⟩
end Tre
namespace Blk
open Go.RowKit
open Rws (mk mk_data mk_size mk_of mk_ext mk_get mk_inj is32)
theorem Tryz.infoRow:(Tryz.prog.info? 52).map (fun i=>(i.zero,i.size,i.bytes))=some (some (.agg #[.int .i64 0,.string ⟨#[]⟩,.int .i64 0]),3,32):=by kernel_rfl
def rC (r:Rw):List Value:=[.int .i64 r.1,.string (mk r.2.1),.int .i64 r.2.2]
def rowV (rs:List Rw):List Value:=rs.flatMap rC
theorem rowV_at (rs:List Rw) (i:Nat) (h:i<rs.length):(rowV rs)[i*3]?=some (.int .i64 (rs.getD i z3).1)/\(rowV rs)[i*3+1]?=some (.string (mk (rs.getD i z3).2.1))/\(rowV rs)[i*3+2]?=some (.int .i64 (rs.getD i z3).2.2):=by
 induction rs generalizing i with
 | nil=>simp at h
 | cons x r ih =>
  cases i with
  | zero=>simp[rowV,rC]
  | succ i =>
   have:=ih i (by simp at h;omega);have e:rowV (x::r)=rC x++rowV r:=by simp[rowV]
   have e1:(i+1)*3=(rC x).length+i*3:=by simp[rC];omega
   have e2:(i+1)*3+1=(rC x).length+(i*3+1):=by simp[rC];omega
   have e3:(i+1)*3+2=(rC x).length+(i*3+2):=by simp[rC];omega
   rw[e,e3,e2,e1,List.getElem?_append_right (by omega),List.getElem?_append_right (by omega),List.getElem?_append_right (by omega),Nat.add_sub_cancel_left,Nat.add_sub_cancel_left,Nat.add_sub_cancel_left,List.getD_cons_succ];exact this
theorem rw_own {w:World} {base:Nat} {v:Value} {rs:List Rw} (h:w.ownsRow base 52 3 v rs.length (rowV rs)):∃ a cap,v=.slice a rs.length cap/\rs.length<=cap/\RwAt w a rs.length rs/\(0<rs.length->∃ g,a=some ⟨g,0,none⟩):=by
 obtain⟨hl,h⟩:=h;rcases h with ⟨rfl,h0⟩ | ⟨g,cap,cur,rfl,hb,hg,hc,hm,hs,ht⟩
 ·rw[h0];exact⟨_,_,rfl,Nat.le_refl _,⟨by simp[h0],fun h=>absurd h (by decide)⟩,fun h=>absurd h (by decide)⟩
 ·refine⟨_,_,rfl,hc,⟨rfl,fun _=>⟨g,0,rfl,(Array.getElem?_eq_some_iff.1 hg).1,?_⟩⟩,fun _=>⟨g,rfl⟩⟩;intro i hi;have hv:=rowV_at rs i hi;rw[<-ht,List.getElem?_take,if_pos (by omega),List.getElem?_take,if_pos (by omega),List.getElem?_take,if_pos (by omega)]at hv;simp only[Nat.zero_add];rw[cell_of_row w g _ cur 52 (0,0) hg,cell_of_row w g _ cur 52 (0,0) hg,cell_of_row w g _ cur 52 (0,0) hg];simpa using hv
end Blk
namespace Lod
open Utf Rws Pln Flw Tre
open Go.RowKit
open Blk (Rw RwAt z3 rowV rw_own rC)
set_option maxHeartbeats 1000000
def rwO (x:Nat × Lb):Rw:=((col x.2.1:Int),text x.2.1,(x.1:Int))
def rwW (s:Ln):List Rw:=(rws s).map rwO
def rwF (s:Ln):Int × Int:=flt 1 (lns s)
theorem rowV_rws (l:List (Nat × Lb)):rowsV l=rowV (l.map rwO):=by
 induction l with
 | nil=>rfl
 | cons x r ih =>
  show cellsOf x++rowsV r=rC (rwO x)++rowV (r.map rwO);rw[ih];rfl
theorem rwW_len (s:Ln):(rwW s).length=(rws s).length:=List.length_map _
theorem num_mem':∀ (k:Nat) (L:List Ln) (x:Nat × Lb),x∈num k L->∃ l∈L,x.2=cl l
 | _,[],x,h=>by cases h
 | k,l::r,x,h=>by
  rw[num]at h;rcases List.mem_cons.1 h with rfl | h
  ·exact⟨l,by simp,rfl⟩
  ·obtain⟨l',h1,h2⟩:=num_mem' (k+1) r x h;exact⟨l',by simp[h1],h2⟩
def RdRes (s:Ln) (w:World) (e:Ending) (w':World):Prop:=∃ a cap,e=.returned (.tuple #[.slice a (rwW s).length cap,.agg #[.int .i64 (rwF s).1,.int .i64 (rwF s).2]])/\Hid (Tre.RowsIn w' a (rwW s).length cap (rwW s))/\Hid (Below w.heap.size w w')
theorem rwW_txt {s:Ln} (hs:s.length<=65536):∀ r∈rwW s,r.2.1.length<=65536/\0<=r.1/\r.1<=65536:=by
 intro r hr;unfold rwW rws at hr;obtain⟨x,hx,rfl⟩:=List.mem_map.1 hr;split at hx
 ·obtain⟨l,hl,hxl⟩:∃ l∈lns s,x.2=cl l:=num_mem' _ _ _ hx;have h1:l.length<=s.length:=lns_mem_len _ s (Nat.le_refl _) l hl;have h2:x.2.1.length<=65536:=by rw[hxl];show (l.take 140737488355328).length<=_;rw[List.length_take];omega
  have h3:(trL x.2.1).length<=x.2.1.length:=(List.dropWhile_suffix _).length_le;have h4:(text x.2.1).length<=(trL x.2.1).length:=by unfold text;exact trR_len _ _
  refine⟨by show (text x.2.1).length<=_;omega,by show (0:Int)<=(col x.2.1:Int);omega,?_⟩;show (col x.2.1:Int)<=65536;unfold col;omega
 ·cases hx
theorem read_rw (s:Ln) (hs:s.length<=65536) (w:World):Calls Tryz.prog 13 #[.string (mk s)] w (RdRes s w):=by
 refine(read_in s hs w).mono fun e w' h=> ?_
 obtain⟨v,rfl,hown,hb⟩:=h;rw[rowV_rws,<-rwW_len]at hown;have h2:=hown.2;obtain⟨a,cap,rfl,hc,hr,hg⟩:=rw_own (rs:=rwW s) hown;refine⟨a,cap,rfl,⟨hr,hc,?_,fun r hr=>by have:=(rwW_txt hs r hr).1;omega⟩,hb⟩;rcases h2 with ⟨e,h0⟩ | ⟨g,cap2,cur,e,_,_,_,hm,_⟩
 ·simp only[Value.slice.injEq]at e;obtain⟨_,_,rfl⟩:=e;exact Nat.zero_le _
 ·simp only[Value.slice.injEq]at e;obtain⟨_,_,rfl⟩:=e;exact hm
end Lod
namespace Blk
open Go.RowKit
open Rws (mk mk_data mk_size mk_of mk_ext mk_get mk_inj)
def sumL (xs:List Ln):Nat:=(xs.map List.length).sum
theorem sumL_cons (x:Ln) (r:List Ln):sumL (x::r)=x.length+sumL r:=by simp[sumL]
theorem sumL_app (a b:List Ln):sumL (a++b)=sumL a+sumL b:=by simp[sumL]
theorem sumL_take (xs:List Ln) (k:Nat):sumL (xs.take k)<=sumL xs:=by
 conv=>rhs;rw[<-List.take_append_drop k xs]
 rw[sumL_app];omega
theorem join_len (c:UInt8):∀ xs:List Ln,(joinW c xs).length<=sumL xs+xs.length
 | []=>by simp[joinW]
 | [x]=>by simp[joinW,sumL]
 | x::y::t=>by
  have ih:=join_len c (y::t);rw[join_cons,List.length_append,List.length_cons,sumL_cons,List.length_cons];omega
theorem sep_len (x:Ln) (r:List Ln):(sep x r).length<=1:=by
 unfold sep;split
 ·simp
 ·split
  ·split<;>simp
  ·simp
theorem fld_len:∀ xs:List Ln,(fld xs).length<=sumL xs+xs.length
 | []=>by simp[fld]
 | [x]=>by simp[fld,sumL]
 | x::y::t=>by
  have ih:=fld_len (y::t);have hs:=sep_len x (y::t);rw[fld_cons,List.length_append,List.length_append,sumL_cons,List.length_cons];omega
end Blk
namespace Blk
open Go.RowKit
open Rws (mk mk_data mk_size mk_of mk_ext mk_get mk_inj)
def sumT (rs:List Rw):Nat:=(rs.map fun r=>r.2.1.length).sum
theorem sumT_cons (r:Rw) (t:List Rw):sumT (r::t)=r.2.1.length+sumT t:=by simp[sumT]
theorem sumT_app (a b:List Rw):sumT (a++b)=sumT a+sumT b:=by simp[sumT]
def far (rs:List Rw):Bool:=rs.any fun r=>decide (300<r.1)
def wid (rs:List Rw):Bool:=far (rs.take 500) || (decide (500<rs.length) || decide (20000<sumT (rs.take 500)))
theorem lo_sum (C:Nat):∀ (b:Option Nat) (l:List Rw) (m:List Ln),lo b l=.inl m->(∀ r∈l,r.1<=(C:Int))->sumL m<=sumT l+l.length*C
 | b,[],m,h,_=>by cases h;simp[sumL]
 | b,r::t,m,h,hc=>by
  have hc':∀ x∈t,x.1<=(C:Int):=fun x hx=>hc x (by simp[hx])
  have hr:=hc r (by simp);have hm:mx r.1<=C:=by unfold mx;omega
  rw[lo]at h;rw[sumT_cons,List.length_cons,Nat.succ_mul];split at h
  ·cases hq:lo b t with
   | inl k=>rw[hq]at h;cases h;have:=lo_sum C b t k hq hc';rw[sumL_app];simp[sumL]at this |-;omega
   | inr a=>rw[hq]at h;cases h
  ·split at h
   ·cases h
   ·cases hq:lo (some (b.getD (mx r.1))) t with
    | inl k =>
     rw[hq]at h;cases h;have:=lo_sum C _ t k hq hc';rw[sumL_app];have e:sumL [List.replicate (mx r.1-b.getD (mx r.1)) 32++r.2.1]=(mx r.1-b.getD (mx r.1))+r.2.1.length:=by simp[sumL]
     rw[e];omega
    | inr a=>rw[hq]at h;cases h
theorem rws_sub (rs:List Rw) (col:Int):(rws rs col).length<=rs.length/\sumT (rws rs col)<=sumT rs/\∀ r∈rws rs col,r∈rs:=by
 induction rs with
 | nil=>exact⟨Nat.le_refl _,Nat.le_refl _,fun r h=>h⟩
 | cons r t ih =>
  obtain⟨h1,h2,h3⟩:=ih;rw[rws_cons];split
  ·refine⟨by simp;omega,by rw[sumT_cons,sumT_cons];omega,fun x hx=> ?_⟩;rcases List.mem_cons.1 hx with rfl | hx
   ·simp
   ·simp[h3 x hx]
  ·exact⟨by simp,by simp[sumT],fun x hx=>by cases hx⟩
theorem tak_bd {rs:List Rw} {col:Int} {C S:Nat} (hc:∀ r∈rs,r.1<=(C:Int)) (hs:sumT rs+rs.length*C+rs.length<=S):∀ ls,lo none (rws rs col)=.inl ls->(joinW 10 (trm ls)).length<=S/\(fld (trm ls)).length<=S:=by
 intro ls hl;obtain⟨h1,h2,h3⟩:=rws_sub rs col;have h4:=lo_sum C _ _ _ hl (fun r hr=>hc r (h3 r hr));have h5:=lo_len _ _ _ hl;have h6:=trm_le ls;have h7:sumL (trm ls)<=sumL ls:=by rw[<-trm_take ls];exact sumL_take ls _
 have h8:=join_len 10 (trm ls);have h9:=fld_len (trm ls);have h10:(rws rs col).length*C<=rs.length*C:=Nat.mul_le_mul_right _ h1;omega
end Blk
namespace Lod
open Utf Rws Pln Flw Tre
open Go.RowKit
open Blk (Rw RwAt z3 lo rws joinW trm fld headO hdV sumT)
set_option maxHeartbeats 1000000
def paD (rs:List Rw):Tf:=paM (msr rs+1) rs
def ldG (p:List Rw->Tf):List (List Rw)->List Tr->List Tr × Int × Int
 | [],acc=>(acc,0,0)
 | d::r,acc=>if (p d).2.1=0 then ldG p r (acc++[(p d).1])else ([],(p d).2)
def ldM (s:Ln):List Tr × Int × Int :=
 if (rwF s).1≠0 then ([],rwF s)else if (tmF (docs (rwW s))).1≠0 then ([],tmF (docs (rwW s)))else ldG paD ((docs (rwW s)).map fun d=>d.2) []
def onM (s:Ln):Tf:=if (ldM s).2.1≠0 then (tr0,(ldM s).2)else if 1<(ldM s).1.length then (tr0,5,0)else ((ldM s).1.getD 0 ⟨1,[],[],[]⟩,0,0)
theorem bkok_of {rs:List Rw} {C:Nat} (hc:∀ r∈rs,r.1<=(C:Int)) (hs:sumT rs+rs.length*C+rs.length<=1000000000):BkOk rs:=by
 intro us hu c ls hls
 have h1:sumT us<=sumT rs:=by
  obtain⟨A,B,rfl⟩:=hu;rw[Blk.sumT_app,Blk.sumT_app];omega
 have h2:=hu.length_le;have h3:us.length*C<=rs.length*C:=Nat.mul_le_mul_right _ h2;exact Blk.tak_bd (fun r hr=>hc r (hu.subset hr)) (S:=1000000000) (by omega) ls hls
theorem sumT_le {C:Nat}:∀ (rs:List Rw),(∀ r∈rs,r.2.1.length<=C)->sumT rs<=rs.length*C
 | [],_=>Nat.zero_le _
 | x::t,h=>by
  rw[Blk.sumT_cons,List.length_cons,Nat.add_mul,Nat.one_mul];have h1:=sumT_le t (fun r hr=>h r (by simp[hr]));have h2:=h x (by simp);omega
theorem good_bd {rs:List Rw} {N:Nat} (hN:N<=20000) (hl:rs.length<=N) (h:∀ r∈rs,r.2.1.length<=N/\0<=r.1/\r.1<=(N:Int)):Tre.Good rs:=by
 have h1:rs.length*N<=N*N:=Nat.mul_le_mul_right _ hl;have h2:N*N<=20000*20000:=Nat.mul_le_mul hN hN;have h3:=sumT_le rs (fun r hr=>(h r hr).1);refine⟨by omega,fun r hr=>by have:=(h r hr).1;omega,fun r hr=>by have:=(h r hr).2;omega,bkok_of (C:=N) (fun r hr=>(h r hr).2.2) (by omega)⟩
theorem rwW_small {s:Ln} (hs:s.length<=65536):(rwW s).length<=s.length/\∀ r∈rwW s,r.2.1.length<=s.length/\0<=r.1/\r.1<=(s.length:Int):=by
 refine⟨?_,fun r hr=> ?_⟩
 ·rw[rwW_len];unfold Rws.rws;split
  ·rw[num_len];exact lns_len _ s (Nat.le_refl _)
  ·exact Nat.zero_le _
 ·unfold rwW Rws.rws at hr;obtain⟨x,hx,rfl⟩:=List.mem_map.1 hr;split at hx
  ·obtain⟨l,hl,hxl⟩:=num_mem' _ _ _ hx;have h1:l.length<=s.length:=lns_mem_len _ s (Nat.le_refl _) l hl;have h2:x.2.1.length<=s.length:=by rw[hxl];show (l.take 140737488355328).length<=_;rw[List.length_take];omega
   have h3:(trL x.2.1).length<=x.2.1.length:=(List.dropWhile_suffix _).length_le;have h4:(text x.2.1).length<=(trL x.2.1).length:=by unfold text;exact trR_len _ _
   refine⟨by show (text x.2.1).length<=_;omega,by show (0:Int)<=(col x.2.1:Int);omega,?_⟩;show (col x.2.1:Int)<=_;unfold col;omega
  ·cases hx
theorem doc1_sub:∀ (n:Nat) (l:List Rw) (d:Int × List Rw),d∈doc1 n l->d.2 <:+: l
 | 0,l,d,h=>by cases h
 | n+1,[],d,h=>by cases h
 | n+1,m::t,d,h=>by
  rw[doc1]at h;rcases List.mem_cons.1 h with rfl | h
  ·exact((List.takeWhile_prefix _).isInfix).trans (List.suffix_cons m t).isInfix
  ·exact(doc1_sub n (lft t) d h).trans (((List.dropWhile_suffix _).trans (List.suffix_cons m t)).isInfix)
theorem docs_sub {l:List Rw} {d:Int × List Rw} (h:d∈docs l):d.2 <:+: l:=by
 unfold docs at h;rcases List.mem_append.1 h with h | h
 ·split at h
  ·obtain rfl:=List.mem_singleton.1 h;exact(List.takeWhile_prefix _).isInfix
  ·cases h
 ·exact(doc1_sub _ _ _ h).trans (List.dropWhile_suffix _).isInfix
theorem good_text {s:Ln} (hs:s.length<=20000):Tre.Good (rwW s):=by
 obtain⟨h1,h2⟩:=rwW_small (s:=s) (by omega);exact good_bd hs h1 h2
theorem good_docs {s:Ln} (hs:s.length<=20000):∀ d∈docs (rwW s),Tre.Good d.2:=fun d hd=>(good_text hs).sub (docs_sub hd)
theorem tm_len {ds:List (Int × List Rw)} (h:(tmF ds).1=0):ds.length<=64:=by
 unfold tmF at h;by_cases hl:64<ds.length
 ·rw[List.getElem?_eq_getElem hl]at h;exact absurd (show (5:Int)=0 from h) (by decide)
 ·omega
theorem ldG_done {p:List Rw->Tf}:∀ (l:List (List Rw)) (acc:List Tr),(∀ d∈l,(p d).2.1=0)->ldG p l acc=(acc++l.map fun d=>(p d).1,0,0)
 | [],acc,_=>by rw[ldG,List.map_nil,List.append_nil]
 | d::r,acc,h=>by
  rw[ldG,if_pos (h d (by simp)),ldG_done r _ (fun d hd=>h d (by simp[hd])),List.map_cons,List.append_assoc,List.singleton_append]
theorem ldG_stop {p:List Rw->Tf}:∀ (l:List (List Rw)) (acc:List Tr) (d:List Rw) (r:List (List Rw)),(∀ d∈l,(p d).2.1=0)->(p d).2.1≠0->ldG p (l++d::r) acc=([],(p d).2)
 | [],acc,d,r,_,hd=>by rw[List.nil_append,ldG,if_neg hd]
 | c::l,acc,d,r,h,hd=>by
  rw[List.cons_append,ldG,if_pos (h c (by simp)),ldG_stop l _ d r (fun d hd=>h d (by simp[hd])) hd]
theorem ldG_len {p:List Rw->Tf}:∀ (l:List (List Rw)) (acc:List Tr),(ldG p l acc).1.length<=acc.length+l.length
 | [],acc=>by rw[ldG];exact Nat.le_refl _
 | d::r,acc=>by
  rw[ldG];split
  ·have:=ldG_len (p:=p) r (acc++[(p d).1]);rw[List.length_append,List.length_singleton]at this;rw[List.length_cons];omega
  ·exact Nat.zero_le _
theorem ldM_len (s:Ln):(ldM s).1.length<=1000000:=by
 unfold ldM;split
 ·exact Nat.zero_le _
 ·split
  ·exact Nat.zero_le _
  ·rename_i h;have h1:=tm_len (by simpa using h);have h2:=ldG_len (p:=paD) ((docs (rwW s)).map fun d=>d.2) [];rw[List.length_map,List.length_nil]at h2;omega
end Lod
end Go.Proofs.YtalijhclfppohaaGreatDoor
