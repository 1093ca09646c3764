/- . -/
import Derived.Test.YtidhpmcmbooaoaaGreatDoorR05FlowMem
import Derived.Test.YtidhpmcmbooaoaaGreatDoorR07FlowRnameP
import Derived.Test.YtidhpmcmbooaoaaGreatDoorR09PlainLeaf
set_option linter.unusedSimpArgs false
set_option linter.unusedVariables false
set_option maxRecDepth 100000
namespace Go.Proofs.YtidhpmcmbooaoaaGreatDoor
namespace Flw
open Utf Rws Pln
open Go.RowKit
theorem inName_any (c:UInt8) (w:World):Calls Tryz.prog 122 #[.int .u8 (c.toNat:Int)] w fun e w'=>e=.returned (.bool (letter c))/\w=w':=by
 have hb:c.toNat<256:=c.toNat_lt;obtain⟨x,hx⟩:∃ x,x=c.toNat:=⟨_,rfl⟩;have HX:Hid (letter c=(decide (97<=x/\x<=122) || decide (65<=x/\x<=90) || decide (48<=x/\x<=57) || decide (x=45) || decide (x=95))):=letter_num hx;rw[<-hx]at hb |-;clear hx;by_cases a1:x<48
 ·go_enter Tryz.func122,Tryz.ntmps122;go_wp2
  all_goals
   go_ret;refine⟨congrArg (fun q=>Ending.returned (.bool q)) ?_,rfl⟩;rw[HX.out,Bool.eq_iff_iff];simp;omega
 by_cases a2:x<65
 ·go_enter Tryz.func122,Tryz.ntmps122;go_wp2
  all_goals
   go_ret;refine⟨congrArg (fun q=>Ending.returned (.bool q)) ?_,rfl⟩;rw[HX.out,Bool.eq_iff_iff];simp;omega
 by_cases a3:x<97
 ·go_enter Tryz.func122,Tryz.ntmps122;go_wp2
  all_goals
   go_ret;refine⟨congrArg (fun q=>Ending.returned (.bool q)) ?_,rfl⟩;rw[HX.out,Bool.eq_iff_iff];simp;omega
 go_enter Tryz.func122,Tryz.ntmps122;go_wp2
 all_goals
  go_ret;refine⟨congrArg (fun q=>Ending.returned (.bool q)) ?_,rfl⟩;rw[HX.out,Bool.eq_iff_iff];simp;omega
def nb (l:Ln):Nat:=(l.takeWhile letter).length
theorem nb_le (l:Ln):nb l<=l.length:=tw_len letter l
theorem tw_take (l:Ln) (n:Nat) (h:(l.take n).all letter=true) (hn:n<l.length) (hb:letter (l.getD n 0)=false):nb l=n:=by
 have e:l=l.take n++l.drop n:=(List.take_append_drop n l).symm;have h2:hd (l.drop n)=l.getD n 0:=by unfold hd;simp[List.getD_eq_getElem?_getD]
 unfold nb;rw[e,takeWhile_app letter _ _ h (.inl (by rw[h2];exact hb)),List.length_take];omega
theorem tw_whole (l:Ln) (h:l.all letter=true):nb l=l.length:=by
 have:=takeWhile_app letter l [] h (.inr rfl);rw[List.append_nil]at this;unfold nb;rw[this]
theorem nameBytes_any (l:Ln) (w:World) (hs:l.length<=562949953421312):Calls Tryz.prog 93 #[.string (mk l)] w fun e w'=>e=.returned (.int .i64 (nb l:Nat))/\w=w':=by
 have hsz:=mk_size l;go_enter Tryz.func93,Tryz.ntmps93;go_wp2
 go_loop [6] (fun i=>∃ n:Nat,n<=l.length/\i=.int .i64 n/\(l.take n).all letter=true) (fun i=>l.length-(intOf i).toNat)
 case atStart=>exact⟨0,Nat.zero_le _,rfl,rfl⟩
 case round =>
  obtain⟨n,hn1,rfl,ht⟩:=hrel;have HT:Hid ((l.take n).all letter=true):=ht;clear ht;by_cases hlt:n<l.length
  ·have hg:∀ h,(mk l)[n]'h=l.getD n 0:=fun h=>getD_mk l n h
   have hlt':n<(mk l).size:=by rw[mk_size];exact hlt
   have hsn:=all_take l n hlt;rw[HT.out,Bool.true_and]at hsn;have HSN:Hid ((l.take (n+1)).all letter=letter (l.getD n 0)):=hsn;have HH:Hid (letter (l.getD n 0)=false->nb l=n):=tw_take l n HT.out hlt;clear hsn;generalize l.getD n 0=b at hg HSN HH;have HC:=fun w=>inName_any b w
   cases hbc:letter b
   ·rw[hbc]at HC;go_wp2_with (go_at_call 122;refine(HC _).mono ?_;rintro e w' ⟨rfl,rfl⟩);go_ret;rw[HH.out hbc];exact⟨rfl,rfl⟩
   ·rw[hbc]at HC HSN;go_wp2_with (go_at_call 122;refine(HC _).mono ?_;rintro e w' ⟨rfl,rfl⟩);go_round
    case rel=>exact⟨n+1,by omega,by go_num,HSN.out⟩
    case measure=>simp[intOf];omega
  ·have HN:Hid (nb l=l.length):=by
    have:=HT.out;rw[List.take_of_length_le (by omega)]at this;exact tw_whole l this
   have e:n=l.length:=by omega
   subst e;go_wp2;go_ret;rw[HN.out];exact⟨rfl,rfl⟩
theorem nb_name (l:Ln):isName l=(!(l==[]) && decide (l.length<=32) && decide (nb l=l.length)):=by
 unfold isName
 cases h:l.all letter with
 | true =>
  rw[tw_whole l h];cases l<;>simp
 | false =>
  have: ¬ nb l=l.length:=by
   intro e;have h2:=tw_all letter l
   have h3:l.takeWhile letter=l:=by
    have:=List.takeWhile_prefix letter (l:=l);exact this.eq_of_length e
   rw[h3,h]at h2;cases h2
  simp[this]
theorem name0_any (l:Ln) (w:World) (hs:l.length<=562949953421312):Calls Tryz.prog 69 #[.string (mk l)] w fun e w'=>e=.returned (.bool (isName l))/\w=w':=by
 have hsz:=mk_size l;have hn:=nb_le l;have HC:Hid (∀ w,Calls Tryz.prog 93 #[.string (mk l)] w fun e w'=>e=.returned (.int .i64 (nb l:Nat))/\w=w'):=fun w=>nameBytes_any l w hs
 have HE:Hid (isName l=(!(l==[]) && decide (l.length<=32) && decide (nb l=l.length))):=nb_name l;have h0:((mk l).toList==[])=(l==[]):=by rw[ByteArray.toList_eq,mk_data]
 generalize nb l=n at *;cases e0:(l==[])
 ·rw[e0]at h0 HE;have hp:0<l.length:=by rw[List.length_pos_iff];simpa using e0
  by_cases e1:l.length<=32
  ·go_enter Tryz.func69,Tryz.ntmps69;go_wp2_with (go_at_call 93;refine(HC.out _).mono ?_;rintro e w' ⟨rfl,rfl⟩);go_ret;rw[HE.out];refine⟨?_,rfl⟩;simp[e1];rw[Bool.eq_iff_iff];simp;omega
  ·go_enter Tryz.func69,Tryz.ntmps69;go_wp2;go_ret;rw[HE.out];exact⟨by simp[e1],rfl⟩
 ·rw[e0]at h0 HE;go_enter Tryz.func69,Tryz.ntmps69;go_wp2;go_ret;rw[HE.out];exact⟨by simp,rfl⟩
variable {b p dp:Nat} {s:Ln} {w:World}
def f0:Value:=.agg #[.int .i64 0,.int .i64 0]
def NamRes (b:Nat) (s:Ln) (dp:Nat) (w:World) (r:Ot (Ln × Ln)) (e:Ending) (w':World):Prop:=match r with
 | .ok x=>e=.returned (.tuple #[.string (mk x.1),f0])/\(∃ q,q<=s.length/\x.2=s.drop q/\Rd w' b s q dp)/\Fr b w w'
 | .error f=>e=.returned (.tuple #[.string (mk []),fv s.length f])/\Fr b w w'
theorem nam_no0 {l:Ln} (h:nb l=0):nam l=.error (stands l):=by
 unfold nam;have e:((l.takeWhile letter).take 32).length=0:=by rw[List.length_take];unfold nb at h;omega
 rw[if_pos (.inl e),e,List.drop_zero]
theorem nb_hd (l:Ln) {k:Nat} (h:k<nb l):letter (hd (l.drop k))=true:=by
 have h2:=List.takeWhile_append_dropWhile (p:=letter) (l:=l)
 have hk:hd (l.drop k)=(l.takeWhile letter)[k]'h:=by
  have hl:k<l.length:=Nat.lt_of_lt_of_le h (nb_le l);have e1:hd (l.drop k)=l[k]:=by unfold hd;rw[List.getD_eq_getElem?_getD,List.getElem?_drop,Nat.add_zero,List.getElem?_eq_getElem hl];rfl
  rw[e1]
  have e2:l[k]?=(l.takeWhile letter)[k]?:=by
   have h3:(l.takeWhile letter++l.dropWhile letter)[k]?=(l.takeWhile letter)[k]?:=List.getElem?_append_left h
   rwa [h2]at h3
  rw[List.getElem?_eq_getElem hl,List.getElem?_eq_getElem h]at e2;exact Option.some.inj e2
 rw[hk];exact List.all_eq_true.1 (tw_all letter l) _ (List.getElem_mem h)
theorem nb_end (l:Ln):letter (hd (l.drop (nb l)))=false:=by
 induction l with
 | nil=>rfl
 | cons c r ih =>
  unfold nb at *;rw[List.takeWhile_cons]
  cases h:letter c with
  | true=>simpa using ih
  | false=>exact h
theorem tw_nb (l:Ln):l.takeWhile letter=l.take (nb l):=by
 have h2:=List.takeWhile_append_dropWhile (p:=letter) (l:=l);have h3:(l.takeWhile letter++l.dropWhile letter).take (nb l)=l.takeWhile letter:=List.take_left;rw[h2]at h3;exact h3.symm
theorem nam_no1 {l:Ln} (h:32<nb l):nam l=.error (stands (l.drop 32)):=by
 unfold nam;have e:((l.takeWhile letter).take 32).length=32:=by rw[List.length_take];unfold nb at h;omega
 rw[e,if_pos (.inr (nb_hd l h))]
theorem nam_yes {l:Ln} (h0:0<nb l) (h1:nb l<=32):nam l=.ok (l.take (nb l),l.drop (nb l)):=by
 unfold nam;have e1:(l.takeWhile letter).take 32=l.take (nb l):=by rw[List.take_of_length_le (by exact h1),tw_nb]
 have e:(l.take (nb l)).length=nb l:=by rw[List.length_take];have:=nb_le l;omega
 rw[e1,e,if_neg (fun h=>h.elim (fun h=>by omega) (fun h=>by rw[nb_end]at h;cases h))]
theorem name_any (h:Rd w b s p dp) (hp:p<=s.length) (hs:s.length<=65536) :
  Calls Tryz.prog 136 #[.pointer (some ⟨b,0,none⟩)] w fun e w'=>NamRes b s dp w (nam (s.drop p)) e w':=by
 obtain⟨W,hW⟩:∃ W,w.alloc (.cells #[.int .i64 0,.int .i64 0] 33)=W:=⟨_,rfl⟩;have hbW:Below w.heap.size w W:=by rw[<-hW];exact below_alloc _ _
 have hRW:Rd W b s p dp:=h.later hbW;have hcW:W.heap[w.heap.size]?=some (.cells #[.int .i64 0,.int .i64 0] 33 (0,0)):=by rw[<-hW];exact heap_alloc_new w _
 have hlt:=h.lt;have hsz:=mk_size s;have hex:(mk s).extract p s.length=mk (s.drop p):=by rw[mk_ext,List.take_of_length_le (by rw[List.length_drop];omega)]
 have hnl:=nb_le (s.drop p);rw[List.length_drop]at hnl;have HB:Hid (∀ w,Calls Tryz.prog 93 #[.string (mk (s.drop p))] w fun e w'=>e=.returned (.int .i64 (nb (s.drop p):Nat))/\w=w'):=fun w=>nameBytes_any _ w (by rw[List.length_drop];omega)
 have c0:=hRW.c0;have c1:=hRW.c1;have HR:Hid (Rd W b s p dp):=hRW;have HCW:Hid (W.heap[w.heap.size]?=some (.cells #[.int .i64 0,.int .i64 0] 33 (0,0))):=hcW;have HBW:Hid (Below w.heap.size w W):=hbW;clear h hRW hcW hbW;go_enter Tryz.func136,Tryz.ntmps136;go_wp2_with fail;go_quiet ((go_at_call 93;exact(HB.out _).mono (fun _ _ ⟨he,hw⟩=>⟨he,_,hw.symm⟩)));clear HB;obtain⟨W1,hW1⟩:∃ W1,W1=W.drewN nq:=⟨_,rfl⟩;have HB1:Hid (Below w.heap.size w W1):=by rw[hW1];exact below_drewN HBW.out nq
 have hR1:Rd W1 b s p dp:=by rw[hW1];exact HR.out.drew nq
 have HC1:Hid (W1.heap[w.heap.size]?=some (.cells #[.int .i64 0,.int .i64 0] 33 (0,0))):=by rw[hW1];exact HCW.out
 rw[<-hW1];clear hW1 HR HBW HCW c0 c1 hW;clear W;have s1:=HB1.out.size
 have HX:Hid (∀ W2,Below W1.heap.size W1 W2->W2.cell? ⟨w.heap.size,0,none⟩=some (.int .i64 0)/\W2.cell? ⟨w.heap.size,1,none⟩=some (.int .i64 0)/\W2.frozen? ⟨w.heap.size,0,none⟩=false/\W2.frozen? ⟨w.heap.size,1,none⟩=false/\Hid (Below w.heap.size w W2)):=fun W2 hb=>by
  have hk:W2.heap[w.heap.size]?=some (.cells #[.int .i64 0,.int .i64 0] 33 (0,0)):=(hb.block _ (Array.getElem?_eq_some_iff.1 HC1.out).1).trans HC1.out;exact⟨by rw[Lib.cell_of_heap hk];rfl,by rw[Lib.cell_of_heap hk];rfl,Lib.frozen_of_heap hk 0,Lib.frozen_of_heap hk 1,HB1.out.trans (hb.mono s1)⟩
 by_cases e0:nb (s.drop p)=0
 ·have HE:Hid (nam (s.drop p)=.error (stands (s.drop p))):=nam_no0 e0;obtain⟨F,hF⟩:∃ F,F=stands (s.drop p):=⟨_,rfl⟩
  have HW:Hid (Calls Tryz.prog 165 #[.pointer (some ⟨b,0,none⟩),.int .i64 (p:Int)] W1 fun e w'=>e=.returned (.agg #[.int .i64 (F.1:Int),.int .i64 ((s.length-F.2:Nat):Int)])/\Below W1.heap.size W1 w'):=by
   have:=wrongAt_any p hR1 hp hs;rw[<-hF]at this;exact this
  rw[<-hF]at HE;have c1:=hR1.c1;clear hF hR1;go_wp2_with (go_at_call 165;refine HW.out.mono ?_;rintro e W2 ⟨rfl,hb2⟩;obtain⟨d0,d1,d2,d3,d4⟩:=HX.out W2 hb2;clear hb2);refine bodyPost_ret (v:=.tuple #[.string ⟨#[]⟩,.agg #[.int .i64 (F.1:Int),.int .i64 ((s.length-F.2:Nat):Int)]]) (by simp[results,Tryz.results136,go_sem,d0,d1]) rfl ?_;rw[HE.out];exact⟨rfl,Fr.of ((d4.out.setCell (p:=⟨w.heap.size,0,none⟩) (Nat.le_refl _) _).setCell (p:=⟨w.heap.size,1,none⟩) (Nat.le_refl _) _) hlt⟩
 by_cases e1:32<nb (s.drop p)
 ·have HE:Hid (nam (s.drop p)=.error (stands ((s.drop p).drop 32))):=nam_no1 e1;obtain⟨F,hF⟩:∃ F,F=stands ((s.drop p).drop 32):=⟨_,rfl⟩
  have HW:Hid (Calls Tryz.prog 165 #[.pointer (some ⟨b,0,none⟩),.int .i64 ((p:Int)+32)] W1 fun e w'=>e=.returned (.agg #[.int .i64 (F.1:Int),.int .i64 ((s.length-F.2:Nat):Int)])/\Below W1.heap.size W1 w'):=by
   have:=wrongAt_any (p+32) hR1 (by omega) hs;rw[<-List.drop_drop,<-hF]at this;exact this
  rw[<-hF]at HE;have c1:=hR1.c1;clear hF hR1;go_wp2_with (go_at_call 165;refine HW.out.mono ?_;rintro e W2 ⟨rfl,hb2⟩;obtain⟨d0,d1,d2,d3,d4⟩:=HX.out W2 hb2;clear hb2);refine bodyPost_ret (v:=.tuple #[.string ⟨#[]⟩,.agg #[.int .i64 (F.1:Int),.int .i64 ((s.length-F.2:Nat):Int)]]) (by simp[results,Tryz.results136,go_sem,d0,d1]) rfl ?_;rw[HE.out];exact⟨rfl,Fr.of ((d4.out.setCell (p:=⟨w.heap.size,0,none⟩) (Nat.le_refl _) _).setCell (p:=⟨w.heap.size,1,none⟩) (Nat.le_refl _) _) hlt⟩
 ·have HE:Hid (nam (s.drop p)=.ok ((s.drop p).take (nb (s.drop p)),(s.drop p).drop (nb (s.drop p)))):=nam_yes (by omega) (by omega);have hx2:(mk s).extract p (p+nb (s.drop p))=mk ((s.drop p).take (nb (s.drop p))):=by rw[mk_ext];simp
  have HD:Hid ((s.drop p).drop (nb (s.drop p))=s.drop (p+nb (s.drop p))):=by rw[List.drop_drop];exact rfl
  generalize nb (s.drop p)=n at *;generalize (s.drop p).take n=M at *
  have HRS:Hid (∀ k,Rd ((W1.drewN k).setCell ⟨b,1,none⟩ (.int .i64 ((p+n:Nat):Int))) b s (p+n) dp/\Fr b w ((W1.drewN k).setCell ⟨b,1,none⟩ (.int .i64 ((p+n:Nat):Int)))/\((W1.drewN k).setCell ⟨b,1,none⟩ (.int .i64 ((p+n:Nat):Int))).heap[w.heap.size]?=some (.cells #[.int .i64 0,.int .i64 0] 33 (0,0))):=fun k =>
   ⟨(hR1.drew k).set1 (p+n),(Fr.of (below_drewN HB1.out k) hlt).set 1 _,by rw[Below.heap_setCell _ _ _ _ (fun e=>by simp at e;omega)];exact HC1.out⟩
  have c0:=hR1.c0;have c1:=hR1.c1;have z1:=hR1.fz 1;clear hR1 HX;go_wp2_with fail;go_quiet (fail);obtain⟨hR3,hF3,hC3⟩:=HRS.out nq;clear HRS;obtain⟨W3,hW3⟩:∃ W3,(W1.drewN nq).setCell ⟨b,1,none⟩ (.int .i64 ((p+n:Nat):Int))=W3:=⟨_,rfl⟩;rw[hW3]at hR3 hF3 hC3;rw[Int.natCast_add]at hW3;have HR3:Hid (Rd W3 b s (p+n) dp):=hR3;have HF3:Hid (Fr b w W3):=hF3;have d0:W3.cell? ⟨w.heap.size,0,none⟩=some (.int .i64 0):=by rw[Lib.cell_of_heap hC3];rfl
  have d1:W3.cell? ⟨w.heap.size,1,none⟩=some (.int .i64 0):=by rw[Lib.cell_of_heap hC3];rfl
  have d2:W3.frozen? ⟨w.heap.size,0,none⟩=false:=Lib.frozen_of_heap hC3 0;have d3:W3.frozen? ⟨w.heap.size,1,none⟩=false:=Lib.frozen_of_heap hC3 1;clear hR3 hF3 hC3;go_wp2;refine bodyPost_ret (v:=.tuple #[.string (mk M),.agg #[.int .i64 0,.int .i64 0]]) (by simp[results,Tryz.results136,go_sem,d0,d1,hx2]) rfl ?_;rw[HE.out];exact⟨rfl,⟨p+n,by omega,HD.out,HR3.out.box (by omega) _ _⟩,HF3.out.box (Nat.le_refl _) hlt _ _⟩
theorem kindOf_any (l:Ln) (w:World) (hs:l.length<=65536):Calls Tryz.prog 186 #[.string (mk l)] w fun e w'=>e=.returned (.int .i64 (word l))/\w=w':=by
 have q1:((mk l).toList==[110,117,108,108])=(l==[110,117,108,108]):=by rw[ByteArray.toList_eq,mk_data]
 have q2:((mk l).toList==[98,111,111,108])=(l==[98,111,111,108]):=by rw[ByteArray.toList_eq,mk_data]
 have q3:((mk l).toList==[105,110,116])=(l==[105,110,116]):=by rw[ByteArray.toList_eq,mk_data]
 have q4:((mk l).toList==[115,116,114])=(l==[115,116,114]):=by rw[ByteArray.toList_eq,mk_data]
 have q5:((mk l).toList==[115,101,113])=(l==[115,101,113]):=by rw[ByteArray.toList_eq,mk_data]
 have q6:((mk l).toList==[109,97,112])=(l==[109,97,112]):=by rw[ByteArray.toList_eq,mk_data]
 by_cases c1:l=[110,117,108,108]
 ·subst c1;go_enter Tryz.func186,Tryz.ntmps186;go_wp2;go_ret;exact⟨rfl,rfl⟩
 by_cases c2:l=[98,111,111,108]
 ·subst c2;go_enter Tryz.func186,Tryz.ntmps186;go_wp2;go_ret;exact⟨rfl,rfl⟩
 by_cases c3:l=[105,110,116]
 ·subst c3;go_enter Tryz.func186,Tryz.ntmps186;go_wp2;go_ret;exact⟨rfl,rfl⟩
 by_cases c4:l=[115,116,114]
 ·subst c4;go_enter Tryz.func186,Tryz.ntmps186;go_wp2;go_ret;exact⟨rfl,rfl⟩
 by_cases c5:l=[115,101,113]
 ·subst c5;go_enter Tryz.func186,Tryz.ntmps186;go_wp2;go_ret;exact⟨rfl,rfl⟩
 by_cases c6:l=[109,97,112]
 ·subst c6;go_enter Tryz.func186,Tryz.ntmps186;go_wp2;go_ret;exact⟨rfl,rfl⟩
 have HE:Hid (word l=0):=by unfold word;rw[if_neg c1,if_neg c2,if_neg c3,if_neg c4,if_neg c5,if_neg c6];exact rfl
 rw[beq_eq_false_iff_ne.2 c1]at q1;rw[beq_eq_false_iff_ne.2 c2]at q2;rw[beq_eq_false_iff_ne.2 c3]at q3;rw[beq_eq_false_iff_ne.2 c4]at q4;rw[beq_eq_false_iff_ne.2 c5]at q5;rw[beq_eq_false_iff_ne.2 c6]at q6;clear c1 c2 c3 c4 c5 c6;go_enter Tryz.func186,Tryz.ntmps186;go_wp2;go_ret;rw[HE.out];exact⟨rfl,rfl⟩
def TagRes (b:Nat) (s:Ln) (dp:Nat) (w:World) (r:Ot (Int × Ln)) (e:Ending) (w':World):Prop:=match r with
 | .ok x=>e=.returned (.tuple #[.int .i64 x.1,f0])/\(∃ q,q<=s.length/\x.2=s.drop q/\Rd w' b s q dp)/\Fr b w w'
 | .error f=>e=.returned (.tuple #[.int .i64 0,fv s.length f])/\Fr b w w'
theorem tag_any (h:Rd w b s p dp) (hp:p<=s.length) (hs:s.length<=65536) :
  Calls Tryz.prog 166 #[.pointer (some ⟨b,0,none⟩)] w fun e w'=>TagRes b s dp w (tag (s.drop p)) e w':=by
 obtain⟨W,hW⟩:∃ W,w.alloc (.cells #[.int .i64 0,.int .i64 0] 33)=W:=⟨_,rfl⟩;have hbW:Below w.heap.size w W:=by rw[<-hW];exact below_alloc _ _
 have hRW:Rd W b s p dp:=h.later hbW;have hcW:W.heap[w.heap.size]?=some (.cells #[.int .i64 0,.int .i64 0] 33 (0,0)):=by rw[<-hW];exact heap_alloc_new w _
 have hlt:=h.lt;have hsz:=mk_size s;have hex:(mk s).extract p s.length=mk (s.drop p):=by rw[mk_ext,List.take_of_length_le (by rw[List.length_drop];omega)]
 have hnl:=nb_le (s.drop p);rw[List.length_drop]at hnl;have HB:Hid (∀ w,Calls Tryz.prog 93 #[.string (mk (s.drop p))] w fun e w'=>e=.returned (.int .i64 (nb (s.drop p):Nat))/\w=w'):=fun w=>nameBytes_any _ w (by rw[List.length_drop];omega)
 have hx2:(mk s).extract p (p+nb (s.drop p))=mk ((s.drop p).take (nb (s.drop p))):=by rw[mk_ext];simp
 have HT:Hid (tag (s.drop p)=if word ((s.drop p).take (nb (s.drop p)))=0 then .error (stands (s.drop p))else .ok (word ((s.drop p).take (nb (s.drop p))),s.drop (p+nb (s.drop p)))):=by
  unfold tag;rw[tw_nb,List.length_take,Nat.min_eq_left (nb_le _),List.drop_drop];exact rfl
 have hML:((s.drop p).take (nb (s.drop p))).length=nb (s.drop p):=by rw[List.length_take,Nat.min_eq_left (nb_le _)]
 have HK:Hid (∀ w,Calls Tryz.prog 186 #[.string (mk ((s.drop p).take (nb (s.drop p))))] w fun e w'=>e=.returned (.int .i64 (word ((s.drop p).take (nb (s.drop p)))))/\w=w'):=fun w=>kindOf_any _ w (by rw[hML];omega)
 have hmz:=mk_size ((s.drop p).take (nb (s.drop p)));rw[hML]at hmz;have hwb:=word_bd ((s.drop p).take (nb (s.drop p)));generalize nb (s.drop p)=n at *;generalize (s.drop p).take n=M at *;generalize word M=g at *;have c0:=hRW.c0;have c1:=hRW.c1;have HR:Hid (Rd W b s p dp):=hRW;have HCW:Hid (W.heap[w.heap.size]?=some (.cells #[.int .i64 0,.int .i64 0] 33 (0,0))):=hcW;have HBW:Hid (Below w.heap.size w W):=hbW;clear h hRW hcW hbW hML;go_enter Tryz.func166,Tryz.ntmps166;go_wp2_with fail;go_quiet ((go_at_call 93;exact(HB.out _).mono (fun _ _ ⟨he,hw⟩=>⟨he,_,hw.symm⟩)));clear HB;obtain⟨W1,hW1⟩:∃ W1,W1=W.drewN nq:=⟨_,rfl⟩;have HB1:Hid (Below w.heap.size w W1):=by rw[hW1];exact below_drewN HBW.out nq
 have hR1:Rd W1 b s p dp:=by rw[hW1];exact HR.out.drew nq
 have HC1:Hid (W1.heap[w.heap.size]?=some (.cells #[.int .i64 0,.int .i64 0] 33 (0,0))):=by rw[hW1];exact HCW.out
 rw[<-hW1];clear hW1 HR HBW HCW c0 c1 hW;clear W;have s1:=HB1.out.size
 have HX:Hid (∀ W2,Below W1.heap.size W1 W2->W2.cell? ⟨w.heap.size,0,none⟩=some (.int .i64 0)/\W2.cell? ⟨w.heap.size,1,none⟩=some (.int .i64 0)/\W2.frozen? ⟨w.heap.size,0,none⟩=false/\W2.frozen? ⟨w.heap.size,1,none⟩=false/\Hid (Below w.heap.size w W2)):=fun W2 hb=>by
  have hk:W2.heap[w.heap.size]?=some (.cells #[.int .i64 0,.int .i64 0] 33 (0,0)):=(hb.block _ (Array.getElem?_eq_some_iff.1 HC1.out).1).trans HC1.out;exact⟨by rw[Lib.cell_of_heap hk];rfl,by rw[Lib.cell_of_heap hk];rfl,Lib.frozen_of_heap hk 0,Lib.frozen_of_heap hk 1,HB1.out.trans (hb.mono s1)⟩
 by_cases e0:g=0
 ·subst e0;have HE:Hid (tag (s.drop p)=.error (stands (s.drop p))):=HT.out;obtain⟨F,hF⟩:∃ F,F=stands (s.drop p):=⟨_,rfl⟩
  have HW:Hid (Calls Tryz.prog 165 #[.pointer (some ⟨b,0,none⟩),.int .i64 (p:Int)] W1 fun e w'=>e=.returned (.agg #[.int .i64 (F.1:Int),.int .i64 ((s.length-F.2:Nat):Int)])/\Below W1.heap.size W1 w'):=by
   have:=wrongAt_any p hR1 hp hs;rw[<-hF]at this;exact this
  rw[<-hF]at HE;have c1:=hR1.c1;clear hF hR1 HT;go_wp2_with (first | (go_at_call 186;refine(HK.out _).mono ?_;rintro e w' ⟨rfl,rfl⟩) | (go_at_call 165;refine HW.out.mono ?_;rintro e W2 ⟨rfl,hb2⟩;obtain⟨d0,d1,d2,d3,d4⟩:=HX.out W2 hb2;clear hb2));refine bodyPost_ret (v:=.tuple #[.int .i64 0,.agg #[.int .i64 (F.1:Int),.int .i64 ((s.length-F.2:Nat):Int)]]) (by simp[results,Tryz.results166,go_sem,d0,d1]) rfl ?_;rw[HE.out];exact⟨rfl,Fr.of ((d4.out.setCell (p:=⟨w.heap.size,0,none⟩) (Nat.le_refl _) _).setCell (p:=⟨w.heap.size,1,none⟩) (Nat.le_refl _) _) hlt⟩
 ·have HE:Hid (tag (s.drop p)=.ok (g,s.drop (p+n))):=by have:=HT.out;rw[if_neg e0]at this;exact this
  have hR3:=hR1.set1 (p+n);have hF3:Fr b w (W1.setCell ⟨b,1,none⟩ (.int .i64 ((p+n:Nat):Int))):=(Fr.of HB1.out hlt).set 1 _;have hC3:(W1.setCell ⟨b,1,none⟩ (.int .i64 ((p+n:Nat):Int))).heap[w.heap.size]?=some (.cells #[.int .i64 0,.int .i64 0] 33 (0,0)):=by rw[Below.heap_setCell _ _ _ _ (fun e=>by simp at e;omega)];exact HC1.out
  obtain⟨W3,hW3⟩:∃ W3,W1.setCell ⟨b,1,none⟩ (.int .i64 ((p+n:Nat):Int))=W3:=⟨_,rfl⟩;rw[hW3]at hR3 hF3 hC3;rw[Int.natCast_add]at hW3;have HR3:Hid (Rd W3 b s (p+n) dp):=hR3;have HF3:Hid (Fr b w W3):=hF3;have d0:W3.cell? ⟨w.heap.size,0,none⟩=some (.int .i64 0):=by rw[Lib.cell_of_heap hC3];rfl
  have d1:W3.cell? ⟨w.heap.size,1,none⟩=some (.int .i64 0):=by rw[Lib.cell_of_heap hC3];rfl
  have d2:W3.frozen? ⟨w.heap.size,0,none⟩=false:=Lib.frozen_of_heap hC3 0;have d3:W3.frozen? ⟨w.heap.size,1,none⟩=false:=Lib.frozen_of_heap hC3 1;have c1:=hR1.c1;have z1:=hR1.fz 1;clear hR3 hF3 hC3 hR1 HX HT;go_wp2_with (first | (go_at_call 186;refine(HK.out _).mono ?_;rintro e w' ⟨rfl,rfl⟩));refine bodyPost_ret (v:=.tuple #[.int .i64 g,.agg #[.int .i64 0,.int .i64 0]]) (by simp[results,Tryz.results166,go_sem,d0,d1]) rfl ?_;rw[HE.out];exact⟨rfl,⟨p+n,by omega,rfl,HR3.out.box (by omega) _ _⟩,HF3.out.box (Nat.le_refl _) hlt _ _⟩
theorem fl_idx (c:UInt8):decide (0<=idx c [32,44,91,93,123,125])=(c==32 || fl c):=by
 rw[idx_has];unfold fl flows;rw[show ([32,44,91,93,123,125]:Ln)=32::[44,91,93,123,125]from rfl,has_cons,show ((32:UInt8)==c)=(c==32)from Bool.beq_comm]
theorem bl_idx (c:UInt8):decide (0<=idx c [32])=(c==32):=by
 rw[idx_has,has_cons,show ((32:UInt8)==c)=(c==32)from Bool.beq_comm];simp[has]
theorem endsWord_any (f:Bool) (h:Rd w b s p dp) (hp:p<=s.length) (hs:s.length<=65536) :
  Calls Tryz.prog 167 #[.pointer (some ⟨b,0,none⟩),.bool f] w fun e w'=>e=.returned (.bool (ends f (s.drop p)))/\∃ n,w'=w.drewN n:=by
 have hsz:=mk_size s;have c0:=h.c0;have c1:=h.c1;clear h;by_cases e:p=s.length
 ·subst e;have HE:Hid (ends f (s.drop s.length)=true):=by rw[List.drop_length];exact rfl
  cases f <;>
  ·go_enter Tryz.func167,Tryz.ntmps167;go_wp2_with fail;go_quiet (fail);go_wp2;go_ret;rw[HE.out];exact⟨rfl,nq,rfl⟩
 ·have hlt:p<(mk s).size:=by omega
  have hlt2:p<s.length:=by omega
  have hpe:((p:Int)==(s.length:Int))=false:=by rw[beq_eq_false_iff_ne];omega
  have hg:∀ h,(mk s)[p]'h=s.getD p 0:=fun h=>getD_mk s p h
  have h2:hd (s.drop p)=s.getD p 0:=by unfold hd;simp[List.getD_eq_getElem?_getD]
  have hne:(s.drop p==[])=false:=by
   rw[beq_eq_false_iff_ne];intro q;have:=congrArg List.length q;rw[List.length_drop]at this;simp at this;omega
  have HE:Hid (ends f (s.drop p)=(s.getD p 0==32 || (f && fl (s.getD p 0)))):=by unfold ends;rw[hne,h2];exact rfl
  generalize s.getD p 0=c at *;cases f
  ·have HI:Hid (∀ w,Calls Tryz.prog 111 #[.string ⟨#[32]⟩,.int .u8 c.toNat] w fun e w'=>e=.returned (.int .i64 (idx c [32]))/\w=w'):=fun w=>Pln.indexByte_any ⟨#[32]⟩ c w
   have HQ:Hid (decide (0<=idx c [32])=(c==32)):=bl_idx c;generalize idx c [32]=I at *;go_enter Tryz.func167,Tryz.ntmps167;go_wp2_with fail;go_quiet ((go_at_call 111;exact(HI.out _).mono (fun _ _ ⟨he,hw⟩=>⟨he,_,hw.symm⟩)));go_wp2;go_ret;rw[HE.out,<-HQ.out];exact⟨by simp,nq,rfl⟩
  ·have HI:Hid (∀ w,Calls Tryz.prog 111 #[.string ⟨#[32,44,91,93,123,125]⟩,.int .u8 c.toNat] w fun e w'=>e=.returned (.int .i64 (idx c [32,44,91,93,123,125]))/\w=w'):=fun w=>Pln.indexByte_any ⟨#[32,44,91,93,123,125]⟩ c w
   have HQ:Hid (decide (0<=idx c [32,44,91,93,123,125])=(c==32 || fl c)):=fl_idx c;generalize idx c [32,44,91,93,123,125]=I at *;go_enter Tryz.func167,Tryz.ntmps167;go_wp2_with fail;go_quiet ((go_at_call 111;exact(HI.out _).mono (fun _ _ ⟨he,hw⟩=>⟨he,_,hw.symm⟩)));go_wp2;go_ret;rw[HE.out];refine⟨?_,nq,rfl⟩;rw[Bool.true_and,<-HQ.out];rfl
end Flw
end Go.Proofs.YtidhpmcmbooaoaaGreatDoor
