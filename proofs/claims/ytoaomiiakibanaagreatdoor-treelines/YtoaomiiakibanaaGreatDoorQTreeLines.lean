/- . -/
import Derived.Test.YtoaomiiakibanaaGreatDoorQFbB
import Derived.Test.YtoaomiiakibanaaGreatDoorQTbQ
import Derived.Test.YtoaomiiakibanaaGreatDoorQFbW
set_option linter.unusedSimpArgs false
set_option linter.unusedVariables false
set_option maxRecDepth 100000
namespace Go.Proofs.YtoaomiiakibanaaGreatDoor
namespace Rws
open Utf
theorem trR_take (p:UInt8->Bool) (l:List UInt8):trR p l=l.take (trR p l).length:=by
 have h:trR p l <+: l:=by
  unfold trR;rw[<-List.reverse_suffix,List.reverse_reverse];exact List.dropWhile_suffix _
 exact(List.prefix_iff_eq_take.1 h)
theorem note_take (l:List UInt8):note l=l.take (note l).length/\(note l).length<=hx true l:=by
 have h1:=trR_take sp (l.take (hx true l));have h2:=trR_len sp (l.take (hx true l));rw[List.length_take]at h2;have h3:(note l).length<=hx true l:=by unfold note;omega
 refine⟨?_,h3⟩;unfold note at h3 |-
 conv=>lhs;rw[h1]
 rw[List.take_take,Nat.min_eq_left h3]
end Rws
namespace Tre
open Utf Rws Pln Flw
open Go.RowKit
open Blk (Rw RwAt z3 headO)
set_option maxHeartbeats 4000000
theorem rest_of {w:World} (hT:Tb w) (l:Ln) (hl:l.length<=65536) (x:Tr × Ln) (h:lval 64 false l=.ok x):∃ q,q<=l.length/\x.2=l.drop q:=by
 have hR:Rd (w.alloc (.cells #[.string (mk l),.int .i64 0,.int .i64 0] 67)) w.heap.size l 0 0:=Bx.new _ _ _;have hTB:TbB w.heap.size (w.alloc (.cells #[.string (mk l),.int .i64 0,.int .i64 0] 67)):=⟨w,hT,Nat.le_refl _,below_alloc _ _⟩;obtain⟨e,w',fr,hv,_⟩:=value_all 64 0 rfl w.heap.size l false _ 0 hR (Nat.zero_le _) hl hTB [];rw[List.drop_zero,h]at hv;obtain⟨v,_,_,⟨q,hq,hx,_⟩,_⟩:=hv;exact⟨q,hq,hx⟩
theorem hd_cons (b:UInt8) (r:Ln):hd (b::r)=b:=rfl
theorem gaps_same {s:Ln} (h0:s≠[]) (h:hd s≠32):gaps s=s:=by
 cases s with
 | nil=>rfl
 | cons b r =>
  unfold gaps;rw[List.dropWhile_cons,if_neg];rw[hd_cons]at h;simpa [is32]using h
theorem CP_same {s:Ln} (h0:s≠[]) (h1:hd s≠32) (h2:hd s≠38) (h3:hd s≠33):CP ⟨[],0⟩ s=(⟨[],0⟩,s):=by
 have hg:=gaps_same h0 h1
 have hw:hd (wrd s)=hd s:=by
  cases s with
  | nil=>rfl
  | cons b r =>
   unfold wrd;rw[hd_cons]at h1 |-;rw[List.takeWhile_cons,if_pos (by simpa using h1)];rfl
 rw[CP_end,hg];rw[hg];unfold wth;rw[if_neg (by rw[hw];exact h2),if_pos rfl]
 have ht:tgw (wrd s)=0:=by
  have hne:∀ m:Ln,wrd s≠33::m:=fun m e=>h3 (by rw[<-hw,e];rfl)
  unfold tgw;rw[if_neg (hne _),if_neg (hne _),if_neg (hne _),if_neg (hne _),if_neg (hne _),if_neg (hne _)]
 rw[ht];rfl
theorem noth_no {s:Ln} (h0:s≠[]) (h:hd s≠35):noth s=false:=by
 unfold noth;simp[h0,h]
theorem head_no {s:Ln} (h0:s≠[]) (h1:hd s≠124) (h2:hd s≠62):headO (note s)=none:=by
 cases hq:headO (note s)with
 | none=>rfl
 | some p =>
  obtain⟨f,c⟩:=p;have e:=Blk.mark_head _ f c hq;have e2:=(note_take s).1;rw[<-e]at e2;unfold Blk.mark at e2
  cases s with
  | nil=>exact absurd rfl h0
  | cons b r =>
   rw[hd_cons]at h1 h2;simp only[List.length_cons,List.take_succ_cons,List.cons.injEq]at e2;cases f
   ·exact absurd e2.1.symm h1
   ·exact absurd e2.1.symm h2
theorem line_pa {w:World} (hT:Tb w) {s:Ln} {t:Tr} (n:Nat) (hl:s.length<=65536) (h0:s≠[]) (h1:hd s≠32) (h2:hd s≠35) (h3:hd s≠124) (h4:hd s≠62) (h5:hd s≠38) (h6:hd s≠33) (hi:isIt s=false) (he:isEn s=false) (hw:whole s=(t,0,0)) (hr:rgh 129 t=true) :
  paM (n+1) [(0,s,1)]=(t,0,0):=by
 have hcp:=CP_same h0 h1 h5 h6;have hno:=noth_no h0 h2
 have hv:vaM (n+1) 0 (0,s,1) []=(t,0,0):=by
  rw[vaM,if_neg (by decide),if_neg (by rw[hi];decide),if_neg (by rw[he];decide)];unfold meM mnM;rw[hcp];simp only;rw[if_neg (by rw[hno];decide),head_no h0 h3 h4];simp only;rw[whole_l,if_neg (by omega)]at hw;unfold lnM rea
  cases hx:lval 64 false s with
  | error e =>
   rw[hx]at hw;simp only[Prod.mk.injEq]at hw;exfalso;have hb:e.1≠0:=lval_bad 64 false s e hx;exact hb hw.2.1
  | ok x =>
   rw[hx]at hw;simp only at hw |-;obtain⟨q,hq,hxq⟩:=rest_of hT s hl x hx
   have hg:gaps x.2=[]:=by
    by_cases hg:gaps x.2=[]
    ·exact hg
    ·rw[if_neg hg]at hw;cases hw
   rw[if_pos hg]at hw
   have e1:s.drop (s.length-x.2.length)=x.2:=by
    rw[hxq,List.length_drop,show s.length-(s.length-q)=q by omega]
   rw[e1];have e2:eLn x.2=true:=by unfold eLn;rw[hg];rfl
   rw[e2];simp only[Prod.mk.injEq]at hw;rw[hw.1];rfl
 have hc:cnt [((0:Int),s,(1:Int))]=[(0,s,1)]:=by
  unfold cnt;rw[List.dropWhile_cons,if_neg];simpa using hno
 have hb:beM (vaM (n+1) 0) false top [(0,s,1)]=(t,0,0):=by
  unfold beM
  have hh:hds false ([((0:Int),s,(1:Int))].length+1) top.1.1 [(0,s,1)]=([],[(0,s,1)],0,0):=by
   show hds false (1+1) (-9223372036854775808) _=_;unfold hds;rw[hc];simp only;rw[if_neg (by decide),if_pos];rw[hcp];simp[hno]
  rw[hh];simp only;rw[if_neg (by decide),hv];rfl
 unfold paM;rw[hb];simp only;rw[if_neg (by decide),if_neg (by rw[hr];decide)]
theorem lines_go {q z:Int} {t:Tr} (s:Ln) (w:World) (hl:s.length<=3000) (b1 b2:Bool) (hT:Hid (Tb w))
  (HAL:Hid (∀ w0,Below w.heap.size w w0->Calls Tryz.prog 14 #[] w0 fun e w'=>e=.returned (.bool true)/\Hid (Below w.heap.size w w')))
  (HWH:Hid (Calls Tryz.prog 15 #[.string (mk s)] w fun e w'=>∃ v,e=.returned (.tuple #[v,.agg #[.int .i64 q,.int .i64 z]])/\TrV w' 65 v t/\Below w.heap.size w w'))
  (HIT:Hid (∀ w0,Calls Tryz.prog 9 #[.string (mk s)] w0 fun e w'=>e=.returned (.tuple #[.string (mk (itR s)),.int .i64 (itN s:Int),.bool b1])/\w0=w'))
  (HEN:Hid (∀ w0,Tb w0->Calls Tryz.prog 11 #[.string (mk s)] w0 fun e w'=>e=.returned (.tuple #[.agg #[.int .i64 (enT s).kind,.string (mk (enT s).text),.string (mk []),.slice none 0 0],.string (mk (enR s)),.int .i64 (enN s:Int),.bool b2])/\Below w0.heap.size w0 w'))
  (R:Bool) (HRT:Hid (∀ v w0,Tb w0->q=0->TrV w0 65 v t->Calls Tryz.prog 16 #[v] w0 fun e w'=>e=.returned (.bool R)/\Below w0.heap.size w0 w'))
  (HPA:Hid (q=0->z=0->R=true->b1=false->b2=false->s≠[]->hd s≠32->hd s≠35->hd s≠124->hd s≠62->hd s≠38->hd s≠33->∀ w0 B,Tb w0->Bx w0 B #[.int .i64 0,.string (mk s),.int .i64 1] 40->Calls Tryz.prog 17 #[.slice (some ⟨B,0,none⟩) 1 1] w0 fun e w'=>TfD 129 (t,0,0) w0 e w')) :
  Calls Tryz.prog 4 #[.string (mk s)] w fun e w'=>e=.returned (.bool true)/\Below w.heap.size w w':=by
 have hsz:(mk s).size=s.length:=mk_size s;have hE:((mk s).toList==[])=(s==[]):=by rw[ByteArray.toList_eq,mk_data]
 obtain⟨ek,hek⟩:∃ k,k=(enT s).kind:=⟨_,rfl⟩;obtain⟨ex,hex⟩:∃ k,k=mk (enT s).text:=⟨_,rfl⟩;obtain⟨er,her⟩:∃ k,k=mk (enR s):=⟨_,rfl⟩;obtain⟨en,hen⟩:∃ k,k=(enN s:Int):=⟨_,rfl⟩;obtain⟨ir,hir⟩:∃ k,k=mk (itR s):=⟨_,rfl⟩;obtain⟨iN,hin⟩:∃ k,k=(itN s:Int):=⟨_,rfl⟩;rw[<-hek,<-hex,<-her,<-hen]at HEN;rw[<-hir,<-hin]at HIT;clear hek hex her hen hir hin;go_enter Tryz.func4,Tryz.ntmps4;go_wp2_with fail;refine HWH.out.mono ?_;rintro e w1 ⟨v,rfl,ht,hb1⟩;clear HWH;obtain⟨ad2,len2,cap2,hv⟩:=ht.open4;subst hv;dsimp only[tv]at ht |-;generalize t.kind=k2 at ht |-;generalize mk t.text=x2 at ht |-;generalize mk t.anc=a2 at ht |-
 have H5:Hid (∀ w5,w5=(w1.alloc (.cells #[.int .i64 k2,.string x2,.string a2,.slice ad2 len2 cap2] 26)).alloc (.cells #[.int .i64 q,.int .i64 z] 34)->Below w.heap.size w w5/\Bx w5 w1.heap.size #[.int .i64 k2,.string x2,.string a2,.slice ad2 len2 cap2] 26/\Bx w5 (w1.heap.size+1) #[.int .i64 q,.int .i64 z] 34/\TrV w5 65 (.agg #[.int .i64 k2,.string x2,.string a2,.slice ad2 len2 cap2]) t):=fun w5 e=>by
  subst e;have h2:=two_b w1 #[.int .i64 k2,.string x2,.string a2,.slice ad2 len2 cap2] #[.int .i64 q,.int .i64 z] 26 34;exact⟨hb1.trans (h2.1.mono hb1.size),h2.2.1,h2.2.2,ht.later h2.1 (Nat.le_refl _)⟩
 clear ht hb1;go_upto_region 4 with fail
 have HS:Hid (_/\_/\_/\_):=H5.out _ rfl;clear H5;generalize (w1.alloc (.cells #[.int .i64 k2,.string x2,.string a2,.slice ad2 len2 cap2] 26)).alloc (.cells #[.int .i64 q,.int .i64 z] 34)=w5 at HS |-;generalize w1.heap.size+1=KF at HS |-;generalize w1.heap.size=KT at HS |-;go_wp2_with fail;refine(HIT.out _).mono ?_;rintro e w' ⟨rfl,rfl⟩;clear HIT;go_wp2_with fail;refine(HEN.out _ (hT.out.later HS.out.1)).mono ?_;rintro e w4 ⟨rfl,h4⟩;clear HEN
 have H6:Hid (∀ w6,w6=w4.alloc (.cells #[.int .i64 ek,.string ex,.string (mk []),.slice none 0 0] 26)->Below w.heap.size w w6/\Bx w6 KT #[.int .i64 k2,.string x2,.string a2,.slice ad2 len2 cap2] 26/\Bx w6 KF #[.int .i64 q,.int .i64 z] 34/\TrV w6 65 (.agg #[.int .i64 k2,.string x2,.string a2,.slice ad2 len2 cap2]) t):=fun w6 e=>by
  subst e;have b:=h4.trans ((below_alloc w4 (.cells #[.int .i64 ek,.string ex,.string (mk []),.slice none 0 0] 26)).mono h4.size);exact⟨HS.out.1.trans (b.mono HS.out.1.size),HS.out.2.1.later b,HS.out.2.2.1.later b,HS.out.2.2.2.later b (Nat.le_refl _)⟩
 clear HS h4;go_upto_region 6 with fail
 have HS:Hid (_/\_/\_/\_):=H6.out _ rfl;clear H6;generalize w4.alloc (.cells #[.int .i64 ek,.string ex,.string (mk []),.slice none 0 0] 26)=w6 at HS |-;generalize w4.heap.size=KE at |-;obtain⟨t0,t1,t2,t3⟩:=HS.out.2.1.c4;obtain⟨f0,f1⟩:=HS.out.2.2.1.c2;have he:=neq_flt q 0 z 0;by_cases hF:q=0/\z=0
 case neg =>
  have hqb:(!(q==0 && z==0))=true:=by
   cases h1:(q==0 && z==0)with
   | false=>rfl
   | true=>exact absurd (by simpa using h1) hF
  rw[hqb]at he;clear hF HRT HPA;go_wp2_with fail;refine(HAL.out _ HS.out.1).mono ?_;rintro e w8 ⟨rfl,H8⟩;go_wp2;go_ret;exact⟨rfl,H8.out⟩
 obtain⟨rfl,rfl⟩:=hF;have hqb:(!((0:Int)==0 && (0:Int)==0))=false:=rfl;rw[hqb]at he
 cases b1 with
 | true =>
  clear HRT HPA;go_wp2_with fail;refine(HAL.out _ HS.out.1).mono ?_;rintro e w8 ⟨rfl,H8⟩;go_wp2;go_ret;exact⟨rfl,H8.out⟩
 | false =>
 cases b2 with
 | true =>
  clear HRT HPA;go_wp2_with fail;refine(HAL.out _ HS.out.1).mono ?_;rintro e w8 ⟨rfl,H8⟩;go_wp2;go_ret;exact⟨rfl,H8.out⟩
 | false =>
 cases hs0:s==[]with
 | true =>
  rw[hs0]at hE;clear HRT HPA;go_wp2_with fail;refine(HAL.out _ HS.out.1).mono ?_;rintro e w8 ⟨rfl,H8⟩;go_wp2;go_ret;exact⟨rfl,H8.out⟩
 | false =>
 rw[hs0]at hE;have hne:s≠[]:=by simpa using hs0
 have hpos:0<s.length:=List.length_pos_iff.2 hne;have hlt:0<(mk s).size:=by rw[mk_size];exact hpos
 have hg:∀ h,(mk s)[0]'h=hd s:=fun h=>Rws.mk_getD s 0 h
 have HNE:Hid (s≠[]):=hne;clear hne hs0;by_cases hc32:hd s=32
 case pos =>
  rw[hc32]at hg;have hn:((32:UInt8).toNat:Int)=32:=rfl;clear HRT HPA;go_wp2_with fail;refine(HAL.out _ HS.out.1).mono ?_;rintro e w8 ⟨rfl,H8⟩;go_wp2;go_ret;exact⟨rfl,H8.out⟩
 have hb32:(((hd s).toNat:Int)==32)=false:=by
  rw[beq_eq_false_iff_ne];intro e;apply hc32;apply UInt8.toNat_inj.1;have:(hd s).toNat=32:=by omega
  rw[this];rfl
 by_cases hc35:hd s=35
 case pos =>
  rw[hc35]at hg;have hn:((35:UInt8).toNat:Int)=35:=rfl;clear HRT HPA;go_wp2_with fail;refine(HAL.out _ HS.out.1).mono ?_;rintro e w8 ⟨rfl,H8⟩;go_wp2;go_ret;exact⟨rfl,H8.out⟩
 have hb35:(((hd s).toNat:Int)==35)=false:=by
  rw[beq_eq_false_iff_ne];intro e;apply hc35;apply UInt8.toNat_inj.1;have:(hd s).toNat=35:=by omega
  rw[this];rfl
 by_cases hc124:hd s=124
 case pos =>
  rw[hc124]at hg;have hn:((124:UInt8).toNat:Int)=124:=rfl;clear HRT HPA;go_wp2_with fail;refine(HAL.out _ HS.out.1).mono ?_;rintro e w8 ⟨rfl,H8⟩;go_wp2;go_ret;exact⟨rfl,H8.out⟩
 have hb124:(((hd s).toNat:Int)==124)=false:=by
  rw[beq_eq_false_iff_ne];intro e;apply hc124;apply UInt8.toNat_inj.1;have:(hd s).toNat=124:=by omega
  rw[this];rfl
 by_cases hc62:hd s=62
 case pos =>
  rw[hc62]at hg;have hn:((62:UInt8).toNat:Int)=62:=rfl;clear HRT HPA;go_wp2_with fail;refine(HAL.out _ HS.out.1).mono ?_;rintro e w8 ⟨rfl,H8⟩;go_wp2;go_ret;exact⟨rfl,H8.out⟩
 have hb62:(((hd s).toNat:Int)==62)=false:=by
  rw[beq_eq_false_iff_ne];intro e;apply hc62;apply UInt8.toNat_inj.1;have:(hd s).toNat=62:=by omega
  rw[this];rfl
 by_cases hc38:hd s=38
 case pos =>
  rw[hc38]at hg;have hn:((38:UInt8).toNat:Int)=38:=rfl;clear HRT HPA;go_wp2_with fail;refine(HAL.out _ HS.out.1).mono ?_;rintro e w8 ⟨rfl,H8⟩;go_wp2;go_ret;exact⟨rfl,H8.out⟩
 have hb38:(((hd s).toNat:Int)==38)=false:=by
  rw[beq_eq_false_iff_ne];intro e;apply hc38;apply UInt8.toNat_inj.1;have:(hd s).toNat=38:=by omega
  rw[this];rfl
 by_cases hc33:hd s=33
 case pos =>
  rw[hc33]at hg;have hn:((33:UInt8).toNat:Int)=33:=rfl;clear HRT HPA;go_wp2_with fail;refine(HAL.out _ HS.out.1).mono ?_;rintro e w8 ⟨rfl,H8⟩;go_wp2;go_ret;exact⟨rfl,H8.out⟩
 have hb33:(((hd s).toNat:Int)==33)=false:=by
  rw[beq_eq_false_iff_ne];intro e;apply hc33;apply UInt8.toNat_inj.1;have:(hd s).toNat=33:=by omega
  rw[this];rfl
 have HP2:=HPA.out rfl rfl;have HR2:=HRT.out (.agg #[.int .i64 k2,.string x2,.string a2,.slice ad2 len2 cap2]) w6 (hT.out.later HS.out.1) rfl HS.out.2.2.2
 cases R with
 | false =>
  clear HPA HRT HP2;generalize hd s=hh at *;go_wp2_with fail;refine HR2.mono ?_;rintro e w7 ⟨rfl,h7⟩;have HS7:Hid (Below w.heap.size w w7):=HS.out.1.trans (h7.mono HS.out.1.size);clear HS h7;go_wp2_with fail;refine(HAL.out _ HS7.out).mono ?_;rintro e w8 ⟨rfl,H8⟩;go_wp2;go_ret;exact⟨rfl,H8.out⟩
 | true =>
 have HP3:Hid (∀ w0 B,Tb w0->Bx w0 B #[.int .i64 0,.string (mk s),.int .i64 1] 40->Calls Tryz.prog 17 #[.slice (some ⟨B,0,none⟩) 1 1] w0 fun e w'=>TfD 129 (t,0,0) w0 e w'):=HP2 rfl rfl rfl HNE.out hc32 hc35 hc124 hc62 hc38 hc33;clear HPA HRT HP2 hc32 hc35 hc124 hc62 hc38 hc33 HNE;generalize hd s=hh at *;go_wp2_with fail;refine HR2.mono ?_;rintro e w7 ⟨rfl,h7⟩
 have H8:Hid (∀ w8,w8=w7.alloc (.cells #[.int .i64 0,.string (mk s),.int .i64 1] 40)->Below w.heap.size w w8/\Bx w8 KT #[.int .i64 k2,.string x2,.string a2,.slice ad2 len2 cap2] 26/\Bx w8 w7.heap.size #[.int .i64 0,.string (mk s),.int .i64 1] 40/\TrV w8 65 (.agg #[.int .i64 k2,.string x2,.string a2,.slice ad2 len2 cap2]) t):=fun w8 e=>by
  subst e;have b:=h7.trans ((below_alloc w7 (.cells #[.int .i64 0,.string (mk s),.int .i64 1] 40)).mono h7.size);exact⟨HS.out.1.trans (b.mono HS.out.1.size),HS.out.2.1.later b,Bx.new _ _ _,HS.out.2.2.2.later b (Nat.le_refl _)⟩
 clear HS h7 he f0 f1 t0 t1 t2 t3;go_wp2_with fail;have N8:=H8.out _ rfl;clear H8;generalize w7.alloc (.cells #[.int .i64 0,.string (mk s),.int .i64 1] 40)=w8 at N8 |-;generalize w7.heap.size=KB at N8 |-;refine(HP3.out w8 KB (hT.out.later N8.1) N8.2.2.1).mono ?_;rintro e w9 ⟨v,rfl,ht,hb9⟩;obtain⟨k3,x3,a3,ad3,len3,cap3,rfl⟩:=ht.cells
 have H9:Hid (∀ wz,wz=(w9.alloc (.cells #[.int .i64 k3,.string x3,.string a3,.slice ad3 len3 cap3] 26)).alloc (.cells #[.int .i64 0,.int .i64 0] 34)->Below w.heap.size w wz/\Bx wz KT #[.int .i64 k2,.string x2,.string a2,.slice ad2 len2 cap2] 26/\Bx wz w9.heap.size #[.int .i64 k3,.string x3,.string a3,.slice ad3 len3 cap3] 26/\Bx wz (w9.heap.size+1) #[.int .i64 0,.int .i64 0] 34/\TrV wz 65 (.agg #[.int .i64 k2,.string x2,.string a2,.slice ad2 len2 cap2]) t/\TrV wz 129 (.agg #[.int .i64 k3,.string x3,.string a3,.slice ad3 len3 cap3]) t):=fun wz e=>by
  subst e;have h2:=two_b w9 #[.int .i64 k3,.string x3,.string a3,.slice ad3 len3 cap3] #[.int .i64 0,.int .i64 0] 26 34;have b:=hb9.trans (h2.1.mono hb9.size);exact⟨N8.1.trans (b.mono N8.1.size),N8.2.1.later b,h2.2.1,h2.2.2,N8.2.2.2.later b (Nat.le_refl _),TrP.v (ht.later h2.1)⟩
 clear ht hb9 N8;go_upto_region 9 with fail
 have HS:Hid (_/\_/\_/\_/\_/\_):=H9.out _ rfl;clear H9;generalize (w9.alloc (.cells #[.int .i64 k3,.string x3,.string a3,.slice ad3 len3 cap3] 26)).alloc (.cells #[.int .i64 0,.int .i64 0] 34)=wz at HS |-;generalize w9.heap.size+1=KG at HS |-;generalize w9.heap.size=KU at HS |-;obtain⟨t0,t1,t2,t3⟩:=HS.out.2.1.c4;obtain⟨u0,u1,u2,u3⟩:=HS.out.2.2.1.c4;obtain⟨g0,g1⟩:=HS.out.2.2.2.1.c2;have he:=eql_flt 0 0 0 0;have heb:((0:Int)==0 && (0:Int)==0)=true:=rfl;rw[heb]at he;clear heb
 have HSA:Hid (Calls Tryz.prog 13 #[.agg #[.int .i64 k2,.string x2,.string a2,.slice ad2 len2 cap2],.agg #[.int .i64 k3,.string x3,.string a3,.slice ad3 len3 cap3]] wz fun e w'=>e=.returned (.bool true)/\Hid (Below wz.heap.size wz w')) :=
  (rsame_any _ _ _ _ _ _ wz HS.out.2.2.2.2.1 HS.out.2.2.2.2.2).mono (fun e w' g=>by obtain⟨y,e1,hy,hb⟩:=g;rw[hy.2 rfl]at e1;exact⟨e1,hb⟩)
 go_wp2_with fail;refine HSA.out.mono ?_;rintro e wy ⟨rfl,H7⟩;have B7:Hid (Below w.heap.size w wy):=HS.out.1.trans (H7.out.mono HS.out.1.size);clear HS HSA t0 t1 t2 t3 u0 u1 u2 u3 g0 g1 he;go_wp2_with fail;refine(HAL.out wy B7.out).mono ?_;rintro e w8 ⟨rfl,H8⟩;go_wp2;go_ret;exact⟨rfl,H8.out⟩
theorem lines_walk (s0:ByteArray) (w:World) (hs0:s0.size<=140737488351232) (hT:Tb w) :
  Calls Tryz.prog 4 #[.string s0] w fun e w'=>e=.returned (.bool true)/\Below w.heap.size w w':=by
 obtain⟨s,rfl⟩:=Rws.mk_ex s0;have hsz:(mk s).size=s.length:=mk_size s;rw[hsz]at hs0;have HAL:Hid (∀ w0,Below w.heap.size w w0->Calls Tryz.prog 14 #[] w0 fun e w'=>e=.returned (.bool true)/\Hid (Below w.heap.size w w')):=fun w0 b=>(alive_any (hT.later b)).mono (fun e w' h=>⟨h.1,b.trans (h.2.mono b.size)⟩)
 by_cases hl:3000<s.length
 ·clear hT;go_enter Tryz.func4,Tryz.ntmps4;go_wp2_with fail;refine(HAL.out _ (Below.refl _ _)).mono ?_;rintro e w8 ⟨rfl,H8⟩;go_wp2;go_ret;exact⟨rfl,H8.out⟩
 have h65:s.length<=65536:=by omega
 refine lines_go (q:=((whole s).2.1:Int)) (z:=((whole s).2.2:Int)) (t:=(whole s).1) s w (by omega) (isIt s) (isEn s) hT HAL (whole_any s (by omega) hT) (fun w0=>item0_any s w0 (by omega)) (fun w0 h=>entry0_any s (by omega) h) (rgh 65 (whole s).1) (fun v w0 ht h0 hv=> ?_) ?_
 ·exact right_any (whole_brief (by omega)) hv ht
 ·intro h0 hz hR hi he hn h1 h2 h3 h4 h5 h6 w0 B ht hB
  have hw:whole s=((whole s).1,0,0):=by
   have e1:(whole s).2.1=0:=by omega
   have e2:(whole s).2.2=0:=by omega
   exact Prod.ext rfl (Prod.ext e1 e2)
  have hr:rgh 129 (whole s).1=true:=by
   rw[rgh_iff (by decide)]at hR |-;exact hR
  have hg:Good [((0:Int),s,(1:Int))]:=good_of (by simp) (by show s.length+0<=_;omega) (fun r hr=>by
   simp only[List.mem_singleton]at hr;subst hr;simp only;omega)
  have hp:=parse_any (4000+1) (some ⟨B,0,none⟩) 1 1 [(0,s,1)] w0 ht ⟨⟨rfl,fun _=>⟨B,0,rfl,hB.lt,fun i hi=>by
   obtain rfl:i=0:=by omega
   exact⟨hB.cell 0,hB.cell 1,hB.cell 2⟩⟩⟩,Nat.le_refl _,by decide,fun r hr=>by
   simp only[List.mem_singleton]at hr;subst hr;show s.length<=_;omega⟩ hg (by show s.length+1+0<_;omega)
  rw[line_pa hT 4000 h65 hn h1 h2 h3 h4 h5 h6 hi he hw hr]at hp;exact hp
end Tre
end Go.Proofs.YtoaomiiakibanaaGreatDoor
