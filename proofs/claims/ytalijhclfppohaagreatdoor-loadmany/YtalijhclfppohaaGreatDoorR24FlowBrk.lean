/- . -/
import Derived.Test.YtalijhclfppohaaGreatDoorR52FlowItem
set_option linter.unusedSimpArgs false
set_option linter.unusedVariables false
set_option maxRecDepth 100000
namespace Go.Proofs.YtalijhclfppohaaGreatDoor
namespace Flw
open Utf Rws Pln
open Go.RowKit
set_option maxHeartbeats 4000000
variable {b p dp d C:Nat} {s:Ln} {w w1 w2:World} {vf:Ln->Ot (Tr × Ln)}
def BrkRes (b:Nat) (s:Ln) (dp:Nat) (w:World) (d:Nat) (r:Ot (List Tr × Ln)) (e:Ending) (w':World):Prop:=match r with
 | .ok x=>∃ (v:Value) (n:Nat) (xs:List Value),e=.returned (.tuple #[v,f0])/\w'.ownsRow w.heap.size 35 4 v n xs/\n=x.1.length/\Kd w.heap.size w' d xs x.1/\(∃ q,q<=s.length/\x.2=s.drop q/\Rd w' b s q dp)/\Fr b w w'
 | .error f=>e=.returned (.tuple #[.slice none 0 0,fv s.length f])/\Fr b w w'
theorem infoTree:(Tryz.prog.info? 35).map (fun i=>(i.zero,i.size,i.bytes))=some (some (.agg zT),4,64):=by kernel_rfl
theorem own_keep {v:Value} {n:Nat} {xs:List Value} (h:w.ownsRow C 35 4 v n xs) (hk:∀ j,C<=j->j<w.heap.size->w1.heap[j]?=w.heap[j]?):w1.ownsRow C 35 4 v n xs:=by
 refine⟨h.1,?_⟩;rcases h.2 with q | ⟨g,cap,cur,q,hb,hh,r⟩
 ·exact .inl q
 ·exact .inr ⟨g,cap,cur,q,hb,(hk g hb (Array.getElem?_eq_some_iff.1 hh).1).trans hh,r⟩
theorem own_down {C':Nat} {v:Value} {n:Nat} {xs:List Value} (h:w.ownsRow C 35 4 v n xs) (hC:C'<=C):w.ownsRow C' 35 4 v n xs:=by
 refine⟨h.1,?_⟩;rcases h.2 with q | ⟨g,cap,cur,q,hb,r⟩
 ·exact .inl q
 ·exact .inr ⟨g,cap,cur,q,Nat.le_trans hC hb,r⟩
theorem own_blk {v:Value} {n:Nat} {xs:List Value} (h:w.ownsRow C 35 4 v n xs) {k:Nat} (hk:v.ownBlock=some k):C<=k/\k<w.heap.size:=by
 rcases h.2 with ⟨rfl,_⟩ | ⟨g,cap,cur,rfl,hb,hh,_⟩
 ·cases hk
 ·cases hk;exact⟨hb,(Array.getElem?_eq_some_iff.1 hh).1⟩
def Out (C:Nat) (v:Value) (j:Nat):Prop:=C<=j/\∀ k,v.ownBlock=some k->j≠k
structure Bk (w0 w:World) (b:Nat) (s:Ln) (q dp d C K0:Nat) (v:Value) (m:Nat) (xs:List Value) (ks:List Tr):Prop where
 rd:Rd w b s q dp
 own:w.ownsRow C 35 4 v m xs
 kd:KdQ (Out C v) w d xs ks
 fr:Fr b w0 w
 k0:Bx w K0 zF 32
 hb:b<w0.heap.size
 h0:w0.heap.size<=K0
 h1:K0<C
 hc:C<=w.heap.size
variable {q q' K0 m:Nat} {v:Value} {xs:List Value} {ks:List Tr} {w0:World}
theorem Bk.step (h:Bk w0 w b s q dp d C K0 v m xs ks) (hr:Rd w1 b s q' dp) (hf:Fr b w w1):Bk w0 w1 b s q' dp d C K0 v m xs ks:=by
 have:=h.hb;have:=h.h0;have:=h.h1;exact⟨hr,own_keep h.own (fun j h1 h2=>hf.2 j (by omega) h2),h.kd.keep hf.size (fun j h1 h2=>hf.2 j (by have:=h1.1;omega) h2),h.fr.trans hf,h.k0.fr hf (by omega),h.hb,h.h0,h.h1,Nat.le_trans h.hc hf.size⟩
theorem Bk.later (h:Bk w0 w b s q dp d C K0 v m xs ks) (hb:Below w.heap.size w w1):Bk w0 w1 b s q dp d C K0 v m xs ks:=h.step (h.rd.later hb) (Fr.of hb h.rd.lt)
theorem Bk.drew (h:Bk w0 w b s q dp d C K0 v m xs ks) (n:Nat):Bk w0 (w.drewN n) b s q dp d C K0 v m xs ks:=h.later (below_drewN (Below.refl _ _) n)
theorem Bk.more (h:Bk w0 w b s q dp d C K0 v m xs ks) {v':Value} {m':Nat} {ys:List Value} {js:List Tr} (hown:w1.ownsRow C 35 4 v' m' (xs++ys)) (hg:w.grownBy w1 v.ownBlock) (hat:v'.ownBlock=v.ownBlock\/v'.ownBlock=some w.heap.size)
  (hk:KdQ (Out C v) w d ys js):Bk w0 w1 b s q dp d C K0 v' m' (xs++ys) (ks++js):=by
 have hb:=h.hb;have h0:=h.h0;have h1:=h.h1;have hfs:=h.fr.size;have hrow:∀ k,v.ownBlock=some k->C<=k:=fun k hk=>(own_blk h.own hk).1
 have hkeep:∀ j,j<w.heap.size->(∀ k,v.ownBlock=some k->j≠k)->w1.heap[j]?=w.heap[j]?:=fun j hj hne=>hg.block j hj (fun e=>hne j e.symm rfl)
 refine⟨(hkeep b (by omega) (fun k hk=>by have:=hrow k hk;omega)).trans h.rd,hown,?_,?_,(hkeep K0 h.k0.lt (fun k hk=>by have:=hrow k hk;omega)).trans h.k0,hb,h0,h1,Nat.le_trans h.hc hg.size⟩
 ·have k2:KdQ (fun j=>Out C v j/\j<w.heap.size) w d (xs++ys) (ks++js):=(h.kd.app hk).wide (fun j a c=>⟨a,c⟩);refine(k2.keep hg.size (fun j a _=>hkeep j a.2 a.1.2)).wide (fun j a _=>⟨a.1.1,fun k hk=> ?_⟩);rcases hat with e | e
  ·rw[e]at hk;exact a.1.2 k hk
  ·rw[e]at hk;cases hk;exact Nat.ne_of_lt a.2
 ·refine⟨⟨hg.os.trans h.fr.1.os,hg.tape.trans h.fr.1.tape,hg.output.trans h.fr.1.output,Nat.le_trans hfs hg.size,fun j hj=>(hkeep j (by omega) (fun k hk=>by have:=hrow k hk;omega)).trans (h.fr.1.block j hj)⟩,fun j hj1 hj2=>(hkeep j (by omega) (fun k hk=>by have:=hrow k hk;omega)).trans (h.fr.2 j hj1 hj2)⟩
theorem Bk.out (h:Bk w0 w b s q dp d C K0 v m xs ks) (x y:Value):Bk w0 w b s q dp d C K0 v m xs ks/\Rd ((w.setCell ⟨K0,0,none⟩ x).setCell ⟨K0,1,none⟩ y) b s q dp/\Fr b w0 ((w.setCell ⟨K0,0,none⟩ x).setCell ⟨K0,1,none⟩ y) /\
  ((w.setCell ⟨K0,0,none⟩ x).setCell ⟨K0,1,none⟩ y).ownsRow w0.heap.size 35 4 v m xs/\Kd w0.heap.size ((w.setCell ⟨K0,0,none⟩ x).setCell ⟨K0,1,none⟩ y) d xs ks:=by
 have hb:=h.hb;have h0:=h.h0;have h1:=h.h1
 have hk:∀ j,C<=j->j<w.heap.size->((w.setCell ⟨K0,0,none⟩ x).setCell ⟨K0,1,none⟩ y).heap[j]?=w.heap[j]?:=fun j hj _=>by
  rw[Below.heap_setCell _ _ _ _ (fun e=>by simp only at e;omega),Below.heap_setCell _ _ _ _ (fun e=>by simp only at e;omega)]
 exact⟨h,h.rd.box (by omega) x y,h.fr.box h0 (by omega) x y,own_down (own_keep h.own hk) (by omega),(h.kd.keep (by simp[World.setCell]) (fun j a c=>hk j a.1 c)).wide (fun j a _=>by have:=a.1;omega)⟩
theorem Bk.set2 (h:Bk w0 w b s q dp d C K0 v m xs ks) (k:Nat):Bk w0 (w.setCell ⟨b,2,none⟩ (.int .i64 (k:Int))) b s q k d C K0 v m xs ks:=by
 have hb:=h.hb;have h0:=h.h0;have h1:=h.h1;have hk:∀ j,j≠b->(w.setCell ⟨b,2,none⟩ (.int .i64 (k:Int))).heap[j]?=w.heap[j]?:=fun j hj=>Below.heap_setCell _ _ _ _ hj
 exact⟨h.rd.set2 k,own_keep h.own (fun j a _=>hk j (by omega)),h.kd.keep (by simp[World.setCell]) (fun j a _=>hk j (by have:=a.1;omega)),h.fr.set 2 _,(hk K0 (by omega)).trans h.k0,hb,h0,h1,by rw[World.size_setCell];exact h.hc⟩
theorem bracket_deep (ev pv:Value) (h:Rd w b s p 64) (hp:p<=s.length) (hs:s.length<=65536) :
  Calls Tryz.prog 169 #[.pointer (some ⟨b,0,none⟩),ev,pv] w fun e w'=>BrkRes b s 64 w d (.error (10,(gaps (s.drop p)).length)) e w':=by
 have hlt:=h.lt;have hb0:=below_alloc w (.cells zF 32);have hr0:=h.later hb0;have hx0:=Bx.new w zF 32;obtain⟨W,hW⟩:∃ W,w.alloc (.cells zF 32)=W:=⟨_,rfl⟩;rw[hW]at hb0 hr0 hx0;have hW':w.alloc (.cells #[.int .i64 0,.int .i64 0] 32)=W:=hW;have HN:Hid (Calls Tryz.prog 165 #[.pointer (some ⟨b,0,none⟩)] W fun e w'=>e=.returned (.int .i64 (nx s p:Nat))/\∃ n,w'=W.drewN n):=next_any hr0 hp hs;have c2:W.cell? ⟨b,2,none⟩=some (.int .i64 64):=hr0.c2;obtain⟨y0,y1⟩:=hx0.c2;have v0:=hx0.fz 0;have v1:=hx0.fz 1;have HF:Hid (∀ k,Fr b w (W.drewN k)):=fun k=>Fr.of (below_drewN hb0 k) hlt
 have hn:=nx_le s p;clear hW hx0 hr0 h hb0;go_enter Tryz.func169,Tryz.ntmps169;go_wp2_with fail;refine HN.out.mono ?_;rintro e w1 ⟨rfl,k1,rfl⟩;go_wp2;refine bodyPost_ret (v:=.tuple #[.slice none 0 0,.agg #[.int .i64 10,.int .i64 (nx s p:Nat)]]) (by simp[results,Tryz.results169,go_sem,y0,y1]) rfl ?_;refine⟨?_,((HF.out k1).box (Nat.le_refl _) hlt _ _)⟩;rw[gaps_nx s hp,fv_at 10 hn];rfl
theorem bracket_any (g:FuncId) (hcf:∀ (vs:Array Value) (w:World),(callFunc g vs).run Tryz.prog w=.ok (.enter g vs) w) (mp:Bool) (E:UInt8) (HE:Hid (endOf mp=E)) (hE0:E≠0) (HP:∀ (w:World) (p:Nat),Rd w b s p (dp+1)->p<=s.length->TbB b w->Calls Tryz.prog g #[.pointer (some ⟨b,0,none⟩)] w fun e w'=>PrtRes b s (dp+1) w d (lpart vf mp (s.drop p)) e w')
  (hbad:∀ l e,lpart vf mp l=.error e->e.1≠0) (hadv:∀ l,Adv l (vf l)) (h:Rd w b s p dp) (hp:p<=s.length) (hs:s.length<=65536) (hT:TbB b w) (hdp:dp<64) (hg:gaps (s.drop p)≠[]) :
  Calls Tryz.prog 169 #[.pointer (some ⟨b,0,none⟩),.string ⟨#[E]⟩,.func (.func g) #[.pointer (some ⟨b,0,none⟩)] #[]] w fun e w'=>BrkRes b s dp w d (lbr vf mp (gaps (s.drop p)).length ((gaps (s.drop p)).drop 1)) e w':=by
 obtain⟨R,HR0⟩:∃ R,Hid (R=lbr vf mp (gaps (s.drop p)).length ((gaps (s.drop p)).drop 1)):=⟨_,rfl⟩;rw[<-HR0.out];obtain⟨it,hi,hz0,hz1,hz2⟩:=info_parts infoTree;have hlt:=h.lt;have hb0:=below_alloc w (.cells zF 32);have hr0:=h.later hb0;have hx0:=Bx.new w zF 32;obtain⟨W,hW⟩:∃ W,w.alloc (.cells zF 32)=W:=⟨_,rfl⟩;rw[hW]at hb0 hr0 hx0;have hW':w.alloc (.cells #[.int .i64 0,.int .i64 0] 32)=W:=hW;have hgn:=gaps_nx s hp;have hn:=nx_le s p;have hgl:=List.length_pos_iff.2 hg;have HN:Hid (Calls Tryz.prog 165 #[.pointer (some ⟨b,0,none⟩)] W fun e w'=>e=.returned (.int .i64 (nx s p:Nat))/\∃ n,w'=W.drewN n):=next_any hr0 hp hs;go_enter Tryz.func169,Tryz.ntmps169;go_wp2_with fail;refine HN.out.mono ?_;rintro e w1 ⟨rfl,k1,rfl⟩;have c2:=hr0.c2;have c1:=hr0.c1;have z1:=hr0.fz 1;have z2:=hr0.fz 2;have hde:((dp:Int)==64)=false:=by rw[beq_eq_false_iff_ne];omega
 have hBK:Bk w (((W.drewN k1).setCell ⟨b,2,none⟩ (.int .i64 ((dp+1:Nat):Int))).setCell ⟨b,1,none⟩ (.int .i64 ((nx s p+1:Nat):Int))) b s (nx s p+1) (dp+1) d W.heap.size w.heap.size (.slice none 0 0) 0 [] [] :=
  ⟨((hr0.drew k1).set2 (dp+1)).set1 (nx s p+1),World.ownsRow_nil _ _ _ _,KdQ.nil d,((Fr.of (below_drewN hb0 k1) hlt).set 2 _).set 1 _,((hx0.drew k1).other (by omega) _ _).other (by omega) _ _,hlt,Nat.le_refl _,hx0.lt,by rw[World.size_setCell,World.size_setCell];exact Nat.le_refl _⟩
 go_wp2;rw[show ((dp:Int)+1)=((dp+1:Nat):Int) by omega,show ((nx s p:Nat):Int)+1=((nx s p+1:Nat):Int) by omega];generalize hw2:((W.drewN k1).setCell ⟨b,2,none⟩ (.int .i64 ((dp+1:Nat):Int))).setCell ⟨b,1,none⟩ (.int .i64 ((nx s p+1:Nat):Int))=W2 at hBK |-
 have HRE:Hid (R=bnd (lbr vf mp (gaps (s.drop p)).length (s.drop (nx s p+1))) fun y=>.ok ([]++y.1,y.2)):=by
  rw[HR0.out,<-List.drop_drop,drop_nx s hp];cases lbr vf mp (gaps (s.drop p)).length ((gaps (s.drop p)).drop 1)<;>exact rfl
 generalize hC:W.heap.size=C at hBK;generalize hK0:w.heap.size=K0 at hBK |-;have HBK:Hid (Bk w W2 b s (nx s p+1) (dp+1) d C K0 (.slice none 0 0) 0 [] []):=hBK;clear hw2 hW hW' HN hb0 hr0 hx0 c1 c2 z1 z2 hC hK0 hBK h;clear HR0
 go_loopw [9] (fun v wr=>∃ (q n m:Nat) (xs:List Value) (ks:List Tr),q<=s.length/\m<=2*q/\m=ks.length/\s.length-q<n/\Bk w wr b s q (dp+1) d C K0 v m xs ks/\R=bnd (lbr vf mp n (s.drop q)) fun y=>.ok (ks++y.1,y.2)) (fun _ wr=>s.length-plc b wr)
 case atStart=>exact⟨nx s p+1,_,0,[],[],by omega,by omega,rfl,by omega,HBK.out,HRE.out⟩
 case round =>
  clear HBK HRE;clear W2;obtain⟨q,n,m,xs,ks,hq,hm,hmk,hfu,hbk,hR⟩:=hrel;have HB:Hid (Bk w wr b s q (dp+1) d C K0 u9 m xs ks):=hbk;have HRR:Hid (R=bnd (lbr vf mp n (s.drop q)) fun y=>.ok (ks++y.1,y.2)):=hR;have HPL:Hid (plc b wr=q):=hbk.rd.plc;have HMK:Hid (m=ks.length):=hmk;clear hbk hR hmk;obtain⟨n',rfl⟩:∃ n',n=n'+1:=⟨n-1,by omega⟩;by_cases hend:hd (gaps (s.drop q))=E
  ·have HV:Hid (R=.ok (ks,(gaps (s.drop q)).drop 1)):=by
    have:=HRR.out;unfold lbr at this;rw[if_pos (show hd (gaps (s.drop q))=endOf mp from hend.trans HE.out.symm),bnd_ok]at this;simp only[List.append_nil]at this;exact this
   have HTY:Hid (Calls Tryz.prog 147 #[.pointer (some ⟨b,0,none⟩),.string ⟨#[E]⟩] wr fun e w'=>e=.returned (.bool true)/\Hid (Bk w w' b s (nx s q+1) (dp+1) d C K0 u9 m xs ks)) :=
    (takes_yes [E] HB.out.rd hq hs (by simp) (by rw[see_hd s q hE0];simpa using hend)).mono (fun e w' h=>⟨h.1,HB.out.step h.2.1 h.2.2⟩)
   have hq1:nx s q+1<=s.length:=by
    have h1:=gaps_nx s hq;have:=(hd_ne (l:=gaps (s.drop q)) (by rw[hend];exact hE0)).2;omega
   have hdr:s.drop (nx s q+1)=(gaps (s.drop q)).drop 1:=by rw[<-List.drop_drop,drop_nx s hq]
   rw[<-hdr]at HV;clear HB HRR hdr hend;go_wp2_with fail;refine HTY.out.mono ?_;rintro e w3 ⟨rfl,HB3⟩;clear HTY;have c2:=HB3.out.rd.c2;have z2:=HB3.out.rd.fz 2;have HB4:=HB3.out.set2 dp;obtain⟨w4,hw4⟩:∃ w4,w3.setCell ⟨b,2,none⟩ (.int .i64 (dp:Int))=w4:=⟨_,rfl⟩;rw[hw4]at HB4;obtain⟨y0,y1⟩:=HB4.k0.c2;have v0:=HB4.k0.fz 0;have v1:=HB4.k0.fz 1;have HB4:Hid (Bk w w4 b s (nx s q+1) dp d C K0 u9 m xs ks):=HB4;have hdm:((dp+1:Nat):Int)-1=(dp:Int):=by omega
   rw[Int.natCast_add]at c2 hdm;clear HB3;go_wp2;refine bodyPost_ret (v:=.tuple #[u9,.agg #[.int .i64 0,.int .i64 0]]) (by simp[results,Tryz.results169,go_sem,y0,y1]) rfl ?_;rw[HV.out];obtain⟨o0,o1,o2,o3,o4⟩:=HB4.out.out (.int .i64 0) (.int .i64 0);exact⟨u9,m,xs,rfl,o3,HMK.out,o4,⟨nx s q+1,hq1,rfl,o1⟩,o2⟩
  ·have HRS:Hid (R=bnd (lpart vf mp (s.drop q)) fun x=>if hd (gaps x.2)=44 then bnd (lbr vf mp n' ((gaps x.2).drop 1)) (fun y=>.ok (ks++(x.1++y.1),y.2))else if hd (gaps x.2)=E then .ok (ks++x.1,(gaps x.2).drop 1)else .error (stands (gaps x.2))):=by
    have:=HRR.out;unfold lbr at this;rw[if_neg (show ¬ hd (gaps (s.drop q))=endOf mp from fun e=>hend (e.trans HE.out)),bnd_bnd]at this;rw[this]
    cases lpart vf mp (s.drop q)with
    | error e=>exact rfl
    | ok x =>
     simp only[bnd_ok];by_cases c1:hd (gaps x.2)=44
     ·rw[if_pos c1,if_pos c1,bnd_bnd];exact rfl
     ·rw[if_neg c1,if_neg c1];by_cases c2:hd (gaps x.2)=E
      ·rw[if_pos (show hd (gaps x.2)=endOf mp from c2.trans HE.out.symm),if_pos c2];exact rfl
      ·rw[if_neg (show ¬ hd (gaps x.2)=endOf mp from fun e=>c2 (e.trans HE.out)),if_neg c2];exact rfl
   have HTN:Hid (Calls Tryz.prog 147 #[.pointer (some ⟨b,0,none⟩),.string ⟨#[E]⟩] wr fun e w'=>e=.returned (.bool false)/\∃ n,w'=wr.drewN n) :=
    takes_no [E] HB.out.rd hq hs (by simp) (by rw[see_hd s q hE0];simpa using hend)
   have HPA:Hid (∀ k,Calls Tryz.prog g #[.pointer (some ⟨b,0,none⟩)] (wr.drewN k) fun e w'=>PrtRes b s (dp+1) (wr.drewN k) d (lpart vf mp (s.drop q)) e w'):=fun k=>HP _ q (HB.out.rd.drew k) hq (hT.fr (HB.out.drew k).fr)
   clear HRR hend;go_wp2_with fail;refine HTN.out.mono ?_;rintro e w2 ⟨rfl,k2,rfl⟩;go_wp2_with fail;refine(HPA.out k2).mono ?_;intro e w3 hres;have hbd:=hbad (s.drop q);have hav:=lpart_adv hadv mp (s.drop q);generalize hlp:lpart vf mp (s.drop q)=r at hres HRS hbd hav
   cases r with
   | error F =>
    obtain⟨ad,mm,rfl,hf3⟩:=hres;have hF0:=hbd F rfl;have HV:Hid (R=.error F):=HRS.out;have hK3:=(HB.out.drew k2).k0.fr hf3 (by have:=HB.out.hb;have:=HB.out.h0;omega);have HF3:Hid (Fr b w w3):=(HB.out.drew k2).fr.trans hf3;have HKK:Hid (b<w.heap.size/\w.heap.size<=K0):=⟨HB.out.hb,HB.out.h0⟩;have hb4:=below_alloc w3 (.cells #[.int .i64 (F.1:Int),.int .i64 ((s.length-F.2:Nat):Int)] 32);have hx4:=Bx.new w3 #[.int .i64 (F.1:Int),.int .i64 ((s.length-F.2:Nat):Int)] 32;have hK4:=hK3.later hb4;have hkf:K0<w3.heap.size:=hK3.lt;unfold fv;clear HB HTN HPA hlp hbd hav HRS hf3 hK3;go_upto_region 9 with fail
    generalize w3.alloc (.cells #[.int .i64 (F.1:Int),.int .i64 ((s.length-F.2:Nat):Int)] 32)=w4 at hb4 hx4 hK4 |-;have HF4:Hid (Fr b w w4):=HF3.out.trans (Fr.of hb4 (by have:=HF3.out.size;have:=HKK.out;omega));generalize w3.heap.size=KF at hx4 hkf |-;obtain⟨i0,i1⟩:=hx4.c2;obtain⟨y0,y1⟩:=hK4.c2;have v0:=hK4.fz 0;have v1:=hK4.fz 1;have hd1:KF≠K0:=by omega
    have hd2:K0≠KF:=by omega
    have hF2:((F.1:Int)!=0)=true:=by simpa using hF0
    clear hb4 hx4 hK4;go_wp2;go_region
    all_goals
     go_wp2;refine bodyPost_ret (v:=.tuple #[.slice none 0 0,.agg #[.int .i64 (F.1:Int),.int .i64 ((s.length-F.2:Nat):Int)]]) (by simp[results,Tryz.results169,go_sem,y0,y1]) rfl ?_;rw[HV.out];exact⟨rfl,(HF4.out.box HKK.out.2 (by have:=HKK.out;omega) _ _).drew⟩
   | ok x =>
    obtain⟨js,l2⟩:=x;obtain⟨g,m2,ys,rfl,hm2,hm3,hxg,hgs,hkd,⟨q2,hq2,hl2,hr3⟩,hf3⟩:=hres;simp only at hm2 hkd hl2;subst hl2;have HM2:Hid (m2=js.length):=hm2;clear hm2;have hlt2:=hav _ rfl;simp only[List.length_drop]at hlt2;have hqq:q<q2:=by omega
    have HB3:Hid (Bk w w3 b s q2 (dp+1) d C K0 u9 m xs ks):=(HB.out.drew k2).step hr3 hf3;have HOY:Hid (KdQ (Out C u9) w3 d ys js):=KdQ.wide hkd (fun j a _=>⟨Nat.le_trans HB.out.hc a,fun k hk=>by have h1:=(own_blk HB.out.own hk).2;have h2:wr.heap.size<=j:=a;omega⟩);have hb4:=below_alloc w3 (.cells #[.int .i64 0,.int .i64 0] 32);have hx4:=Bx.new w3 #[.int .i64 0,.int .i64 0] 32;have hB4:=HB3.out.later hb4;have hG4:=hxg.later hb4;have hY4:=HOY.out.later hb4;unfold f0;go_upto_region 9 with fail
    generalize w3.alloc (.cells #[.int .i64 0,.int .i64 0] 32)=w4 at hb4 hx4 hB4 hG4 hY4 |-;have HB4:Hid (Bk w w4 b s q2 (dp+1) d C K0 u9 m xs ks):=hB4;have HY4:Hid (KdQ (Out C u9) w4 d ys js):=hY4;have HG4:Hid (Bx w4 g ys.toArray 35):=hG4;have i0:w4.cell? ⟨w3.heap.size,0,none⟩=some (.int .i64 0):=hx4.cell 0;generalize w3.heap.size=KF at i0 |-;clear hb4 hx4 hB4 hY4 hG4 HB3 HOY hxg hkd hf3 hr3 HB HTN HPA hlp hbd hav;have hbs:(m+m2)*64<=140737488355328:=by omega
    have hml:m+m2<=maxLen:=by unfold maxLen;omega
    have hyl:ys.length=m2*4:=by rw[HY4.out.1,HM2.out]
    have hyc:∀ j u,ys[j]?=some u->w4.cell? ((⟨g,0,none⟩:Addr).add j)=some u:=fun j u hj=>by
     have e:(⟨g,0,none⟩:Addr).add j=⟨g,j,none⟩:=by simp[Addr.add];exact fun h=>h.symm
     rw[e,HG4.out.cell j];simpa using hj
    go_wp2_with (at_builtin;refine wpList_append_own_at _ rfl _ _ 29 rfl C 35 it (.agg zT) 4 64 Tryz.underlying29 hi hz0 hz1 hz2 rfl (by decide) u9 m xs rfl HB4.out.own ⟨g,0,none⟩ m2 m2 ys rfl hyl hyc HY4.out.2.1 hml hbs HB4.out.hc ?_);intro v' w5 hown5 hgr5 _ hat5;have HB5:Hid (Bk w w5 b s q2 (dp+1) d C K0 v' (m+m2) (xs++ys) (ks++js)):=HB4.out.more hown5 hgr5 hat5 HY4.out;clear HB4 HY4 HG4 hown5 hgr5 hat5 hyc i0;have hml2:m+m2=(ks++js).length:=by rw[List.length_append,<-HMK.out,<-HM2.out]
    have HML:Hid (m+m2=(ks++js).length):=hml2;have HRX:Hid (R=if hd (gaps (s.drop q2))=44 then bnd (lbr vf mp n' ((gaps (s.drop q2)).drop 1)) (fun y=>.ok (ks++(js++y.1),y.2))else if hd (gaps (s.drop q2))=E then .ok (ks++js,(gaps (s.drop q2)).drop 1)else .error (stands (gaps (s.drop q2)))):=HRS.out;clear HRS hml2 hyl hbs hml HM2 HMK;by_cases c44:hd (gaps (s.drop q2))=44
    ·have hq3:nx s q2+1<=s.length:=by
      have h1:=gaps_nx s hq2;have:=(hd_ne (l:=gaps (s.drop q2)) (by rw[c44];decide)).2;omega
     have hge:=nx_ge s hq2
     have HV:Hid (R=bnd (lbr vf mp n' (s.drop (nx s q2+1))) fun y=>.ok ((ks++js)++y.1,y.2)):=by
      show R=_;have:=HRX.out;rw[if_pos c44,<-drop_nx s hq2,List.drop_drop]at this;rw[this];simp only[List.append_assoc]
     have HTY:Hid (Calls Tryz.prog 147 #[.pointer (some ⟨b,0,none⟩),.string ⟨#[44]⟩] w5 fun e w'=>e=.returned (.bool true)/\Hid (Bk w w' b s (nx s q2+1) (dp+1) d C K0 v' (m+m2) (xs++ys) (ks++js))) :=
      (takes_yes [44] HB5.out.rd hq2 hs (by decide) (by rw[see_hd s q2 (by decide)];simpa using c44)).mono (fun e w' h=>⟨h.1,HB5.out.step h.2.1 h.2.2⟩)
     clear HRX HB5 c44;go_wp2_with (go_at_call 147;refine HTY.out.mono ?_;rintro e w6 ⟨rfl,HB6⟩);go_roundw
     case rel =>
      (repeat apply Exists.intro)
      exact⟨⟨nx s q2+1,n',m+m2,xs++ys,ks++js,hq3,by omega,HML.out,by omega,HB6.out,HV.out⟩,rfl⟩
     case measure=>rw[HPL.out,HB6.out.rd.plc];omega
    ·have HTN:Hid (Calls Tryz.prog 147 #[.pointer (some ⟨b,0,none⟩),.string ⟨#[44]⟩] w5 fun e w'=>e=.returned (.bool false)/\∃ n,w'=w5.drewN n) :=
      takes_no [44] HB5.out.rd hq2 hs (by decide) (by rw[see_hd s q2 (by decide)];simpa using c44)
     by_cases ce:hd (gaps (s.drop q2))=E
     ·have HV:Hid (R=bnd (lbr vf mp n' (s.drop q2)) fun y=>.ok ((ks++js)++y.1,y.2)):=by
       show R=_;have:=HRX.out;rw[if_neg c44,if_pos ce]at this;have hne:=(hd_ne (l:=gaps (s.drop q2)) (by rw[ce];exact hE0)).2;have h1:=gaps_nx s hq2;obtain⟨n2,rfl⟩:∃ n2,n'=n2+1:=⟨n'-1,by omega⟩;rw[this];unfold lbr;rw[if_pos (show hd (gaps (s.drop q2))=endOf mp from ce.trans HE.out.symm),bnd_ok];simp only[List.append_nil]
      have HSE:Hid (∀ k,Calls Tryz.prog 164 #[.pointer (some ⟨b,0,none⟩),.string ⟨#[E]⟩] (w5.drewN k) fun e w'=>e=.returned (.bool true)/\∃ n,w'=(w5.drewN k).drewN n):=fun k=>by
       have:=sees_any [E] (HB5.out.rd.drew k) hq2 hs (by simp);rw[see_hd s q2 hE0,decide_eq_true ce]at this;exact this
      clear HRX c44 ce;go_wp2_with (first | (go_at_call 147;refine HTN.out.mono ?_;rintro e w6 ⟨rfl,k5,rfl⟩) | (go_at_call 164;refine(HSE.out _).mono ?_;rintro e w6 ⟨rfl,k6,rfl⟩));go_roundw
      case rel =>
       (repeat apply Exists.intro)
       exact⟨⟨q2,n',m+m2,xs++ys,ks++js,hq2,by omega,HML.out,by omega,HB5.out.drew _,HV.out⟩,rfl⟩
      case measure=>rw[HPL.out,(show plc b _=q2 from by first | exact(HB5.out.drew _).rd.plc | exact((HB5.out.drew _).drew _).rd.plc)];omega
     ·have HV:Hid (R=.error (stands (gaps (s.drop q2)))):=by
       have:=HRX.out;rw[if_neg c44,if_neg ce]at this;exact this
      have HSE:Hid (∀ k,Calls Tryz.prog 164 #[.pointer (some ⟨b,0,none⟩),.string ⟨#[E]⟩] (w5.drewN k) fun e w'=>e=.returned (.bool false)/\∃ n,w'=(w5.drewN k).drewN n):=fun k=>by
       have:=sees_any [E] (HB5.out.rd.drew k) hq2 hs (by simp);rw[see_hd s q2 hE0,decide_eq_false ce]at this;exact this
      have HWR:Hid (∀ k,Calls Tryz.prog 188 #[.pointer (some ⟨b,0,none⟩)] (w5.drewN k) fun e w'=>e=.returned (fv s.length (stands (gaps (s.drop q2))))/\Hid (Bk w w' b s q2 (dp+1) d C K0 v' (m+m2) (xs++ys) (ks++js))):=fun k=>(wrong_any (HB5.out.rd.drew k) hq2 hs).mono (fun e w' h=>⟨h.1,(HB5.out.drew k).later h.2⟩)
      generalize stands (gaps (s.drop q2))=F at *;clear HRX c44 ce HB5;go_wp2_with (first | (go_at_call 147;refine HTN.out.mono ?_;rintro e w6 ⟨rfl,k5,rfl⟩) | (go_at_call 164;refine(HSE.out _).mono ?_;rintro e w6 ⟨rfl,k6,rfl⟩));refine(HWR.out _).mono ?_;rintro e w7 ⟨rfl,HB7⟩;unfold fv;obtain⟨y0,y1⟩:=HB7.out.k0.c2;have v0:=HB7.out.k0.fz 0;have v1:=HB7.out.k0.fz 1;go_wp2;refine bodyPost_ret (v:=.tuple #[.slice none 0 0,.agg #[.int .i64 (F.1:Int),.int .i64 ((s.length-F.2:Nat):Int)]]) (by simp[results,Tryz.results169,go_sem,y0,y1]) rfl ?_;rw[HV.out];exact⟨rfl,(HB7.out.out _ _).2.2.1⟩
end Flw
end Go.Proofs.YtalijhclfppohaaGreatDoor
