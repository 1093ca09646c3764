/- . -/
import Derived.Test.YtidhpmcmbooaoaaGreatDoorR27BlockMem
import Derived.Deep.RegionLaw
import Derived.Laws.OwnMore
import Derived.BigQuiet
import Derived.BigRegion
import Derived.Deep.QuietTactic
import Derived.Test.YtidhpmcmbooaoaaGreatDoorR34BlockLeaf
import Derived.WalkMore
set_option linter.unusedSimpArgs false
set_option linter.unusedVariables false
set_option maxRecDepth 100000
namespace Go.Proofs.YtidhpmcmbooaoaaGreatDoor
namespace Blk
open Go.RowKit
theorem step_call {P:Program} {ops:Array Oper} {o:Oper} {a:Act} {w:World} {K:Act->World->Prop} {Q:Exit->Act->World->Prop} {E:Prop} (hgd:o.guard=none) (f:FuncId) (xs:Array Operand) (ts:Array TypeId)
  (ho:o.op=.call { callee:=.value (.func f),args:=xs,argTypes:=ts }) (vs:Array Value) (hcf:(callFunc f vs).run P w=.ok (.enter f vs) w) (hv:xs.map a.eval=vs) {R:Ending->World->Prop} (hc:Calls P f vs w R) (hR:∀ e w',R e w'->∃ v,e=.returned v/\K (a.put o.dst v) w') :
  if Region.wanted o (yielded ops a.tmps)=true then Oper.wp P o a w K Q else E:=by
 have hw:Region.wanted o (yielded ops a.tmps)=true:=by simp[Region.wanted,hgd]
 rw[if_pos hw];subst hv;unfold Oper.wp;simp[execOp,ho,resolve,invoke,Result.andThen,Act.eval,Deferred.ofValue];rw[hcf];exact hc.mono fun e w' hr=>by obtain⟨v,rfl,hk⟩:=hR e w' hr;exact hk
theorem step_append_own {P:Program} {ops:Array Oper} {o:Oper} {a:Act} {w:World} {K:Act->World->Prop} {Q:Exit->Act->World->Prop} {E:Prop}
  (hg:o.guard=none) (s x:Operand) (t:TypeId) (hop:o.op=Op.call { callee:=Callee.builtin Builtin.append,args:=#[s,x],argTypes:=#[t,t] }) (base:Nat)
  (e:TypeId) (i:TypeInfo) (z:Value) (size bytes:Nat) (h1:P.underlying t=some (.slice e)) (h2:P.info? e=some i) (h3:i.zero=some z) (h4:i.size=size) (h5:i.bytes=bytes) (h6:z.cells.size=size) (h7:0<size)
  (v:Value) (n:Nat) (xs:List Value) (hs:a.eval s=v) (hown:w.ownsRow base e size v n xs)
  (ad:Addr) (m c:Nat) (news:List Value) (hx:a.eval x=.slice (some ad) m c) (hn:news.length=m*size) (hc:∀ j u,news[j]?=some u->w.cell? (ad.add j)=some u) (h1c:∀ u∈news,u.oneCell'=true)
  (b1:n+m<=maxLen) (b2:(n+m)*bytes<=140737488355328) (hbase:base<=w.heap.size)
  (hK:∀ v' w',w'.ownsRow base e size v' (n+m) (xs++news)->w.grownBy w' v.ownBlock->K (a.put o.dst v') w') :
  if Region.wanted o (yielded ops a.tmps)=true then Oper.wp P o a w K Q else E:=by
 have hw:Region.wanted o (yielded ops a.tmps)=true:=by simp[Region.wanted,hg]
 rw[if_pos hw];obtain⟨v',w',hrun,r1,r2,_⟩:=run_append_own (P:=P) w base t o.type e i z size bytes h1 h2 h3 h4 h5 h6 h7 v n xs hown ad m c news hn hc h1c b1 b2 hbase;unfold Oper.wp;simp[execOp,hop,resolve,invoke,builtin,hs,hx,hrun,Result.andThen];exact hK v' w' r1 r2
theorem Tryz.infoStr:(Tryz.prog.info? 9).map (fun i=>(i.zero,i.size,i.bytes))=some (some (.string ⟨#[]⟩),1,16):=by kernel_rfl
theorem own_block {w:World} {B:Nat} {e:TypeId} {s:Nat} {v:Value} {n:Nat} {xs:List Value} (h:w.ownsRow B e s v n xs):∀ k,v.ownBlock=some k->B<=k:=fun k hk=>(h.lt k hk).1
theorem own_mono {w:World} {B B':Nat} {e:TypeId} {s:Nat} {v:Value} {n:Nat} {xs:List Value} (h:w.ownsRow B e s v n xs) (hB:B'<=B):w.ownsRow B' e s v n xs:=by
 refine⟨h.1,?_⟩;rcases h.2 with q | ⟨g,cap,cur,q,hb,r⟩
 ·exact .inl q
 ·exact .inr ⟨g,cap,cur,q,Nat.le_trans hB hb,r⟩
theorem own_later {w w':World} {B:Nat} {e:TypeId} {s:Nat} {v:Value} {n:Nat} {xs:List Value} (h:w.ownsRow B e s v n xs) (hb:Below w.heap.size w w'):w'.ownsRow B e s v n xs:=by
 refine h.kept (row:=none) ⟨hb.os,hb.tape,hb.output,hb.size,fun k hk _=>hb.block k hk⟩ ?_;cases hv:v.ownBlock
 ·exact .inl rfl
 ·exact .inr (by simp)
theorem cell_one {w:World} (v:Value) (t:TypeId):∀ j u,[v][j]?=some u->(w.alloc (.cells #[v] t)).cell? ((⟨w.heap.size,0,none⟩:Addr).add j)=some u:=by
 intro j u hu
 cases j with
 | zero=>cases hu;rw[add_plain];rw[Lib.cell_of_heap (heap_alloc_new w (.cells #[v] t))];rfl
 | succ j=>simp at hu
theorem str_one (s:ByteArray):∀ u∈[Value.string s],u.oneCell'=true:=by intro u hu;rw[List.mem_singleton.1 hu];rfl
structure QW (W:World) where
 w:World
 h:Below W.heap.size W w
theorem wp_region_class {P:Program} {id:Nat} {Q:Exit->Act->World->Prop} {a:Act} {w:World} {l:List Oper} (hm:P.follows .mixedOrders=true) (hB:Region.lexB .any l.toArray=true)
  (h:wpQuiet P l.toArray (fun w'=>∃ q:QW w,w'=q.w) (fun a'=>∀ w',(∃ q:QW w,w'=q.w)->Q .normal a' w') l a):(Code.region id l.toArray true).wp P Q a w :=
 wp_region_quiet (C:=fun w'=>∃ q:QW w,w'=q.w) hm hB ⟨⟨w.drew,(Below.refl _ w).drew⟩,rfl⟩ (by simpa using h)
theorem calls_class {P:Program} {f:FuncId} {args:Array Value} {W:World} {v:Value} (q:QW W) (h:Calls P f args q.w fun e w'=>e=.returned v/\Below q.w.heap.size q.w w'):Calls P f args q.w fun e w'=>e=.returned v/\∃ q':QW W,w'=q'.w :=
 h.mono fun _ w' ⟨he,hb⟩=>⟨he,⟨w',q.h.trans (hb.mono q.h.size)⟩,rfl⟩
end Blk
namespace Blk
open Go.RowKit
open Rws (mk mk_data mk_size mk_of mk_ext mk_get mk_inj)
theorem withoutEnd_any (a:Option Addr) (len cap:Nat) (xs:List Ln) (w:World) (h:StrsAt w a len xs) (hl:len<=140737488355327) (hc:len<=cap) :
  Calls Tryz.prog 104 #[.slice a len cap] w fun e w'=>e=.returned (.slice a (trm xs).length cap)/\Below w.heap.size w w':=by
 have HZ:Hid (StrsAt w a len xs):=h;clear h;go_enter Tryz.func104,Tryz.ntmps104;go_wp2
 go_loopw [3] (fun un wr=>∃ n:Nat,n<=len/\un=.int .i64 (n:Int)/\wr=w/\trm xs=trm (xs.take n)) (fun un _=>(intOf un).toNat)
 case atStart=>exact⟨len,Nat.le_refl _,rfl,rfl,by rw[List.take_of_length_le (by rw[<-HZ.out.1];exact Nat.le_refl _)]⟩
 case round =>
  obtain⟨n,hn,rfl,rfl,hT⟩:=hrel;have HT:Hid (trm xs=trm (xs.take n)):=hT;clear hT
  cases n with
  | zero =>
   have HE:Hid ((trm xs).length=0):=by rw[HT.out];exact rfl
   go_wp2;go_ret;rw[HE.out];exact⟨rfl,Below.refl _ _⟩
  | succ m =>
   obtain⟨b,off,rfl,hbb,hcc⟩:=HZ.out.2 (by omega);have c0:=hcc m (by omega);have HS:Hid (xs.take (m+1)=xs.take m++[xs.getD m []]):=take_getD xs m (by rw[<-HZ.out.1];omega);obtain⟨x,hx⟩:∃ x,x=xs.getD m []:=⟨_,rfl⟩;rw[<-hx]at c0 HS;clear hx hcc;by_cases hx0:x=[]
   ·have HN:Hid (trm xs=trm (xs.take m)):=by rw[HT.out,HS.out,hx0,trm_snoc_nil];exact rfl
    rw[hx0,show mk []=(⟨#[]⟩:ByteArray)from rfl]at c0;go_wp2;exact⟨⟨m,by omega,rfl,trivial,HN.out⟩,by simp[intOf]⟩
   ·have HN:Hid ((trm xs).length=m+1):=by
     rw[HT.out,HS.out,trm_last _ _ hx0,List.length_append,List.length_take,<-HZ.out.1];simp[Hid];omega
    have hq:((mk x).toList==[])=false:=by rw[mk_nil_eq];simpa using hx0
    go_wp2;go_ret;rw[HN.out];exact⟨rfl,Below.refl _ _⟩
def LinesRes (R:List Ln ⊕ Int) (w:World) (e:Ending) (w':World):Prop :=
 (∃ ls v,R=.inl ls/\e=.returned (.tuple #[v,.agg #[.int .i64 0,.int .i64 0]])/\w'.ownsRow w.heap.size 9 1 v ls.length (strV ls)/\Below w.heap.size w w') \/
 (∃ x,R=.inr x/\e=.returned (.tuple #[.slice none 0 0,.agg #[.int .i64 9,.int .i64 x]])/\Below w.heap.size w w')
def bv:Option Nat->Int
 | none=> -1
 | some b=>b
theorem mx_eq (c:Int):max c 0=(mx c:Int):=by unfold mx;omega
theorem lo_nil (b:Option Nat):lo b []=.inl []:=rfl
theorem lo_emp (b:Option Nat) (x1 x3:Int) (t:List Rw):lo b ((x1,[],x3)::t)=addL [[]] (lo b t):=by rw[lo,if_pos rfl]
theorem lo_bad (b:Option Nat) (x1:Int) (x2:Ln) (x3:Int) (t:List Rw) (h:x2≠[]) (h2:mx x1<b.getD (mx x1)\/b.getD (mx x1)+65536<mx x1):lo b ((x1,x2,x3)::t)=.inr x3:=by rw[lo,if_neg h,if_pos h2]
theorem lo_ok (b:Option Nat) (x1:Int) (x2:Ln) (x3:Int) (t:List Rw) (h:x2≠[]) (h2: ¬(mx x1<b.getD (mx x1)\/b.getD (mx x1)+65536<mx x1)) :
  lo b ((x1,x2,x3)::t)=addL [List.replicate (mx x1-b.getD (mx x1)) 32++x2] (lo (some (b.getD (mx x1))) t):=by rw[lo,if_neg h,if_neg h2]
theorem mk_app (a b:Ln):mk a++mk b=mk (a++b):=by
 apply ByteArray.ext;rw[ByteArray.data_append];simp[mk]
theorem rep0 (w:World):Calls Tryz.prog 132 #[.string ⟨#[32]⟩,.int .i64 0] w fun e w'=>e=.returned (.string (mk []))/\Below w.heap.size w w':=rep_any 32 0 w (by decide)
theorem cfr (args:Array Value) (w:World):(callFunc 132 args).run Tryz.prog w=.ok (.enter 132 args) w:=enters_of Tryz.func132 (by kernel_rfl) rfl args w
set_option maxHeartbeats 4000000 in
theorem linesOf_any (a:Option Addr) (len cap:Nat) (rs:List Rw) (col:Int) (w:World) (h:RwAt w a len rs) (hl:len<=1048576) (hw:∀ r∈rs,r.1<=9223372036854775807/\r.2.1.length<=140737488355328) :
  Calls Tryz.prog 103 #[.slice a len cap,.int .i64 col] w fun e w'=>LinesRes (lo none (rws rs col)) w e w':=by
 have HZ:Hid (RwAt w a len rs):=h;have HW:Hid (∀ r∈rs,r.1<=9223372036854775807/\r.2.1.length<=140737488355328):=hw;obtain⟨R,HR⟩:∃ R,Hid (R=lo none (rws rs col)):=⟨_,rfl⟩;rw[<-HR.out];clear h hw;obtain⟨i0,hi,hz0,hz1,hz2⟩:=info_parts Tryz.infoStr;obtain⟨W,hW⟩:∃ W,w.alloc (.cells #[.int .i64 0,.int .i64 0] 33)=W:=⟨_,rfl⟩;have hbW:Below w.heap.size w W:=by rw[<-hW];exact(Below.refl _ _).alloc (Nat.le_refl _) _
 have hWs:W.heap.size=w.heap.size+1:=by rw[<-hW];simp
 have hcW:W.heap[w.heap.size]?=some (.cells #[.int .i64 0,.int .i64 0] 33 (0,0)):=by rw[<-hW];exact heap_alloc_new w _
 have HKK:Hid (∀ W2,Below (w.heap.size+1) W W2->Below w.heap.size w W2/\W2.cell? ⟨w.heap.size,0,none⟩=some (.int .i64 0)/\W2.cell? ⟨w.heap.size,1,none⟩=some (.int .i64 0)/\W2.frozen? ⟨w.heap.size,0,none⟩=false/\W2.frozen? ⟨w.heap.size,1,none⟩=false):=fun W2 hb=>by
  have hk:W2.heap[w.heap.size]?=some (.cells #[.int .i64 0,.int .i64 0] 33 (0,0)):=(hb.block _ (by omega)).trans hcW;exact⟨hbW.trans (hb.mono (by omega)),by rw[Lib.cell_of_heap hk];rfl,by rw[Lib.cell_of_heap hk];rfl,Lib.frozen_of_heap hk 0,Lib.frozen_of_heap hk 1⟩
 have HWS:Hid (W.heap.size=w.heap.size+1):=hWs;clear hbW hcW hWs;go_enter Tryz.func103,Tryz.ntmps103;go_wp2;go_step3;go_wp2;go_step3;go_wp2
 go_loopw [6,7,13] (fun uv ub ui wr=>∃ (k:Nat) (acc:List Ln) (ob:Option Nat),k<=len/\ui=.int .i64 (k:Int)/\ub=.int .i64 (bv ob)/\acc.length=k/\(∀ b,ob=some b->b<=9223372036854775807)/\wr.ownsRow (w.heap.size+1) 9 1 uv acc.length (strV acc)/\Below (w.heap.size+1) W wr/\w.heap.size+1<=wr.heap.size/\R=addL acc (lo ob (rws (rs.drop k) col))) (fun _ _ ui _=>len-(intOf ui).toNat)
 case atStart=>exact⟨0,[],none,Nat.zero_le _,rfl,rfl,rfl,(fun b h=>by cases h),World.ownsRow_nil _ _ _ _,Below.refl _ _,by rw[HWS.out];exact Nat.le_refl _,by rw[addL_nil];exact HR.out⟩
 case round =>
  clear hW HR;obtain⟨k,acc,ob,hk,rfl,rfl,hal,hob,hown,hbe,hws,hE⟩:=hrel;have HO:Hid (wr.ownsRow (w.heap.size+1) 9 1 u6 acc.length (strV acc)):=hown;have HB:Hid (Below (w.heap.size+1) W wr):=hbe;have HE:Hid (R=addL acc (lo ob (rws (rs.drop k) col))):=hE;have HOB:Hid (∀ b,ob=some b->b<=9223372036854775807):=hob;have HAL:Hid (acc.length=k):=hal;clear hown hbe hE hob hal;by_cases hlt:k<len
  ·obtain⟨b,off,rfl,hbb,hc⟩:=HZ.out.2 (by omega);have hbe0:Below w.heap.size w wr:=(HKK.out _ HB.out).1;obtain⟨c0,c1,c2⟩:=hc k hlt;replace c0:=(hbe0.cell (p:=⟨b,off+k*3,none⟩) hbb).trans c0;replace c1:=(hbe0.cell (p:=⟨b,off+k*3+1,none⟩) hbb).trans c1;replace c2:=(hbe0.cell (p:=⟨b,off+k*3+2,none⟩) hbb).trans c2;have hkr:k<rs.length:=by rw[<-HZ.out.1];exact hlt
   have HD:Hid (rs.drop k=rs.getD k z3::rs.drop (k+1)):=drop_getR rs k hkr;have hmem:rs.getD k z3∈rs:=by rw[List.getD_eq_getElem?_getD,List.getElem?_eq_getElem hkr];exact List.getElem_mem _
   obtain⟨hmw,hxl⟩:=HW.out _ hmem;obtain⟨x,hx⟩:∃ x,x=rs.getD k z3:=⟨_,rfl⟩;rw[<-hx]at c0 c1 c2 HD hmw hxl;obtain⟨x1,x2,x3⟩:=x;simp only at c0 c1 c2 hmw hxl;clear hx hc hmem hkr hbe0;have hmx:=mx_eq x1;have hml:(mx x1:Int)<=9223372036854775807:=by rw[<-hmx];omega
   have HX:Hid (rws (rs.drop k) col=if x2=[]\/col<(mx x1:Int)then (x1,x2,x3)::rws (rs.drop (k+1)) col else []):=by rw[HD.out,rws_cons];exact rfl
   clear HD hmw;generalize hM:mx x1=M at *;have HM:Hid (mx x1=M):=hM;clear hM;by_cases hx0:x2=[]
   ·have HN:Hid (R=addL (acc++[[]]) (lo ob (rws (rs.drop (k+1)) col))):=by
     rw[HE.out,HX.out,if_pos (.inl hx0),hx0,lo_emp,addL_addL];exact rfl
    rw[hx0,show mk []=(⟨#[]⟩:ByteArray)from rfl]at c1;clear HX HE;obtain⟨W1,hW1⟩:∃ W1,wr.alloc (.cells #[.int .i64 x1,.string ⟨#[]⟩,.int .i64 x3] 45)=W1:=⟨_,rfl⟩;have hc1:W1.heap[wr.heap.size]?=some (.cells #[.int .i64 x1,.string ⟨#[]⟩,.int .i64 x3] 45 (0,0)):=by rw[<-hW1];exact heap_alloc_new wr _
    have d0:W1.cell? ⟨wr.heap.size,0,none⟩=some (.int .i64 x1):=by rw[Lib.cell_of_heap hc1];rfl
    have d1:W1.cell? ⟨wr.heap.size,1,none⟩=some (.string ⟨#[]⟩):=by rw[Lib.cell_of_heap hc1];rfl
    have d2:W1.cell? ⟨wr.heap.size,2,none⟩=some (.int .i64 x3):=by rw[Lib.cell_of_heap hc1];rfl
    have hs1:W1.heap.size=wr.heap.size+1:=by rw[<-hW1];simp
    have HB1:Hid (Below (w.heap.size+1) W W1):=by rw[<-hW1];exact HB.out.alloc hws _
    have HO1:Hid (W1.ownsRow (w.heap.size+1) 9 1 u6 acc.length (strV acc)):=by rw[<-hW1];exact HO.out.alloc _
    have hka:acc.length<=1048576:=by rw[HAL.out];omega
    clear hc1 HB HO;go_wp2_with (first | (at_builtin;refine wpList_append_own _ rfl _ _ 39 rfl (w.heap.size+1) 9 i0 (.string ⟨#[]⟩) 1 16 Tryz.underlying39 hi hz0 hz1 hz2 rfl (by decide) _ _ _ rfl (HO1.out.alloc _) ⟨W1.heap.size,0,none⟩ 1 1 [Value.string ⟨#[]⟩] (by first | rfl | (rw[hs1];rfl)) rfl (cell_one _ _) (str_one _) (by unfold maxLen;omega) (by omega) (by rw[World.size_alloc];omega) ?_;intro v' w3 hown' hgrow _;have hb3:Below (w.heap.size+1) W w3:=(HB1.out.alloc (by omega) _).grown hgrow (by rw[World.size_alloc];omega) (own_block HO1.out);have hs3:=hgrow.size;rw[World.size_alloc]at hs3));have HO3:Hid (w3.ownsRow (w.heap.size+1) 9 1 v' (acc++[[]]).length (strV (acc++[[]]))):=by rw[strV_snoc,List.length_append];exact hown'
    clear hown' hgrow;go_roundw
    case rel=>exact⟨k+1,acc++[[]],ob,by omega,by go_num,rfl,by rw[List.length_append,HAL.out];rfl,HOB.out,HO3.out,hb3,by omega,HN.out⟩
    case measure=>(simp[intOf]<;>omega)
   ·have hq:((mk x2).toList==[])=false:=by rw[mk_nil_eq];simpa using hx0
    obtain⟨W1,hW1⟩:∃ W1,wr.alloc (.cells #[.int .i64 x1,.string (mk x2),.int .i64 x3] 45)=W1:=⟨_,rfl⟩;have hc1:W1.heap[wr.heap.size]?=some (.cells #[.int .i64 x1,.string (mk x2),.int .i64 x3] 45 (0,0)):=by rw[<-hW1];exact heap_alloc_new wr _
    have d0:W1.cell? ⟨wr.heap.size,0,none⟩=some (.int .i64 x1):=by rw[Lib.cell_of_heap hc1];rfl
    have d1:W1.cell? ⟨wr.heap.size,1,none⟩=some (.string (mk x2)):=by rw[Lib.cell_of_heap hc1];rfl
    have d2:W1.cell? ⟨wr.heap.size,2,none⟩=some (.int .i64 x3):=by rw[Lib.cell_of_heap hc1];rfl
    have hs1:W1.heap.size=wr.heap.size+1:=by rw[<-hW1];simp
    have HB1:Hid (Below (w.heap.size+1) W W1):=by rw[<-hW1];exact HB.out.alloc hws _
    have HO1:Hid (W1.ownsRow (w.heap.size+1) 9 1 u6 acc.length (strV acc)):=by rw[<-hW1];exact HO.out.alloc _
    have hka:acc.length<=1048576:=by rw[HAL.out];omega
    clear hc1 HB HO;obtain⟨e4,e0,e1,e2,e3⟩:=HKK.out _ HB1.out;by_cases hcd:(col:Int)<(M:Int)
    ·cases ob with
     | none =>
      have HN:Hid (R=addL (acc++[[]++x2]) (lo (some M) (rws (rs.drop (k+1)) col))):=by
       have h2:=lo_ok none x1 x2 x3 (rws (rs.drop (k+1)) col) hx0 (by simp);rw[HM.out]at h2;rw[HE.out,HX.out,if_pos (.inr hcd),h2,addL_addL];simp[Hid]
      clear HE HX;have hbv:bv none= -1:=rfl;have hwr:IntKind.i64.wrap 0=0:=by decide
      have hcat: ¬ (9223372036854775807<(mk []).size+(mk x2).size):=by rw[mk_size,mk_size,List.length_nil];omega
      go_wp2
      go_region_law (first
       | (refine step_call rfl 132 _ _ rfl #[.string ⟨#[32]⟩,.int .i64 0] (cfr _ _) (by simp[Act.eval,Act.put,hwr]) (rep0 _) ?_;rintro e w2 ⟨rfl,hb2⟩;refine⟨_,rfl,?_⟩;have q1:=(hb2.cell (p:=⟨wr.heap.size,1,none⟩) (by show wr.heap.size<W1.heap.size;omega)).trans d1;have hs2:=hb2.size)
       | (refine step_append_own rfl (.tmp 47) (.tmp 55) 39 rfl (w.heap.size+1) 9 i0 (.string ⟨#[]⟩) 1 16 Tryz.underlying39 hi hz0 hz1 hz2 rfl (by decide) u6 acc.length (strV acc) (by simp[Act.eval,Act.put]) ((own_later (w:=W1.drew) HO1.out hb2).alloc _) ⟨w2.heap.size,0,none⟩ 1 1 [.string (mk ([])++mk x2)] (by simp[Act.eval,Act.put]) rfl (cell_one _ _) (str_one _) (by unfold maxLen;omega) (by omega) (by rw[World.size_alloc];have:W1.heap.size<=w2.heap.size:=hs2;omega) ?_;intro v' w3 hown' hgrow;have hb3:Below (w.heap.size+1) W w3:=((HB1.out.drew.trans (hb2.mono (by show w.heap.size+1<=W1.heap.size;omega))).alloc (by have:W1.heap.size<=w2.heap.size:=hs2;omega) _).grown hgrow (by rw[World.size_alloc];have:W1.heap.size<=w2.heap.size:=hs2;omega) (own_block HO1.out);have hs3:=hgrow.size;rw[World.size_alloc]at hs3))
      all_goals (
       have HO3:Hid (w3.ownsRow (w.heap.size+1) 9 1 v' (acc++[[]++x2]).length (strV (acc++[[]++x2]))):=(by rw[strV_snoc,List.length_append,<-mk_app];exact hown');have hs4:w.heap.size+1<=w3.heap.size:=(by have:W1.heap.size<=w2.heap.size:=hs2;omega);clear hown' hgrow hb2 q1 hs2 hs3;go_wp2;go_roundw
       case rel=>exact⟨k+1,acc++[[]++x2],some M,by omega,by go_num,rfl,by rw[List.length_append,HAL.out];rfl,(fun b' h=>by cases h;omega),HO3.out,hb3,hs4,HN.out⟩
       case measure=>(simp[intOf]<;>omega))
     | some b0 =>
      have hb0:=HOB.out b0 rfl;have hbv:bv (some b0)=(b0:Int):=rfl;by_cases hlo:M<b0
      ·have HN:Hid (R=.inr x3):=by rw[HE.out,HX.out,if_pos (.inr hcd),lo_bad _ _ _ _ _ hx0 (by rw[HM.out];exact .inl hlo)];exact rfl
       clear HE HX;go_wp2;go_region
       all_goals (
        go_wp2
        try rw[Exit.noGoto_ret]
        refine bodyPost_ret (v:=.tuple #[.slice none 0 0,.agg #[.int .i64 9,.int .i64 x3]]) (by simp[results,Tryz.results103,go_sem,e0,e1]) rfl (.inr ⟨x3,HN.out,rfl,(e4.drew.setCell (p:=⟨w.heap.size,0,none⟩) (Nat.le_refl _) _).setCell (p:=⟨w.heap.size,1,none⟩) (Nat.le_refl _) _⟩))
      ·obtain⟨n,hn⟩:∃ n,M=b0+n:=⟨M-b0,by omega⟩;have hsub:(M:Int)-(b0:Int)=(n:Int):=by omega
       have hnl: ¬ ((M:Int)<(b0:Int)):=by omega
       have HNN:Hid (M=b0+n):=hn;clear hn;by_cases hhi:65536<n
       ·have HN:Hid (R=.inr x3):=by rw[HE.out,HX.out,if_pos (.inr hcd),lo_bad _ _ _ _ _ hx0 (by rw[HM.out];exact .inr (by have:=HNN.out;simp;omega))];exact rfl
        clear HE HX;go_wp2;go_region
        all_goals (
         go_wp2
         try rw[Exit.noGoto_ret]
         refine bodyPost_ret (v:=.tuple #[.slice none 0 0,.agg #[.int .i64 9,.int .i64 x3]]) (by simp[results,Tryz.results103,go_sem,e0,e1]) rfl (.inr ⟨x3,HN.out,rfl,(e4.drew.setCell (p:=⟨w.heap.size,0,none⟩) (Nat.le_refl _) _).setCell (p:=⟨w.heap.size,1,none⟩) (Nat.le_refl _) _⟩))
       ·have HN:Hid (R=addL (acc++[List.replicate n 32++x2]) (lo (some b0) (rws (rs.drop (k+1)) col))):=by
         have h2:=lo_ok (some b0) x1 x2 x3 (rws (rs.drop (k+1)) col) hx0 (by rw[HM.out];have:=HNN.out;simp;omega);rw[HM.out]at h2;rw[HE.out,HX.out,if_pos (.inr hcd),h2,addL_addL];simp only[Option.getD_some];rw[show M-b0=n by have:=HNN.out;omega];exact rfl
        clear HE HX;have hwr:IntKind.i64.wrap (n:Int)=(n:Int):=by rw[IntKind.wrap_i64];omega
        have hcat: ¬ (9223372036854775807<(mk (List.replicate n 32)).size+(mk x2).size):=by rw[mk_size,mk_size,List.length_replicate];omega
        go_wp2
        go_region_law (first
         | (refine step_call rfl 132 _ _ rfl #[.string ⟨#[32]⟩,.int .i64 (n:Int)] (cfr _ _) (by simp[Act.eval,Act.put,hwr]) (rep_any 32 n _ (by omega)) ?_;rintro e w2 ⟨rfl,hb2⟩;refine⟨_,rfl,?_⟩;have q1:=(hb2.cell (p:=⟨wr.heap.size,1,none⟩) (by show wr.heap.size<W1.heap.size;omega)).trans d1;have hs2:=hb2.size)
         | (refine step_append_own rfl (.tmp 47) (.tmp 55) 39 rfl (w.heap.size+1) 9 i0 (.string ⟨#[]⟩) 1 16 Tryz.underlying39 hi hz0 hz1 hz2 rfl (by decide) u6 acc.length (strV acc) (by simp[Act.eval,Act.put]) ((own_later (w:=W1.drew) HO1.out hb2).alloc _) ⟨w2.heap.size,0,none⟩ 1 1 [.string (mk (List.replicate n 32)++mk x2)] (by simp[Act.eval,Act.put]) rfl (cell_one _ _) (str_one _) (by unfold maxLen;omega) (by omega) (by rw[World.size_alloc];have:W1.heap.size<=w2.heap.size:=hs2;omega) ?_;intro v' w3 hown' hgrow;have hb3:Below (w.heap.size+1) W w3:=((HB1.out.drew.trans (hb2.mono (by show w.heap.size+1<=W1.heap.size;omega))).alloc (by have:W1.heap.size<=w2.heap.size:=hs2;omega) _).grown hgrow (by rw[World.size_alloc];have:W1.heap.size<=w2.heap.size:=hs2;omega) (own_block HO1.out);have hs3:=hgrow.size;rw[World.size_alloc]at hs3))
        all_goals (
         have HO3:Hid (w3.ownsRow (w.heap.size+1) 9 1 v' (acc++[List.replicate n 32++x2]).length (strV (acc++[List.replicate n 32++x2]))):=(by rw[strV_snoc,List.length_append,<-mk_app];exact hown');have hs4:w.heap.size+1<=w3.heap.size:=(by have:W1.heap.size<=w2.heap.size:=hs2;omega);clear hown' hgrow hb2 q1 hs2 hs3;go_wp2;go_roundw
         case rel=>exact⟨k+1,acc++[List.replicate n 32++x2],some b0,by omega,by go_num,rfl,by rw[List.length_append,HAL.out];rfl,(fun b' h=>by cases h;omega),HO3.out,hb3,hs4,HN.out⟩
         case measure=>(simp[intOf]<;>omega))
    ·have HN:Hid (R=.inl acc):=by rw[HE.out,HX.out,if_neg (by rintro(h | h);exact hx0 h;exact hcd h),lo_nil];simp[addL,Hid]
     clear HE HX;go_wp2
     try rw[Exit.noGoto_ret]
     refine bodyPost_ret (v:=.tuple #[u6,.agg #[.int .i64 0,.int .i64 0]]) (by simp[results,Tryz.results103,go_sem,e0,e1]) rfl (.inl ⟨acc,u6,HN.out,rfl,?_,(e4.setCell (p:=⟨w.heap.size,0,none⟩) (Nat.le_refl _) _).setCell (p:=⟨w.heap.size,1,none⟩) (Nat.le_refl _) _⟩);exact own_mono (ownsRow_setCell_below (a:=⟨w.heap.size,1,none⟩) (ownsRow_setCell_below (a:=⟨w.heap.size,0,none⟩) HO1.out (Nat.lt_succ_self _) _) (Nat.lt_succ_self _) _) (Nat.le_succ _)
  ·have HN:Hid (R=.inl acc):=by rw[HE.out,List.drop_of_length_le (by rw[<-HZ.out.1];omega),rws_nil,lo_nil];simp[addL,Hid]
   obtain⟨e4,e0,e1,e2,e3⟩:=HKK.out _ HB.out;clear HE;go_wp2
   try rw[Exit.noGoto_ret]
   refine bodyPost_ret (v:=.tuple #[u6,.agg #[.int .i64 0,.int .i64 0]]) (by simp[results,Tryz.results103,go_sem,e0,e1]) rfl (.inl ⟨acc,u6,HN.out,rfl,?_,(e4.setCell (p:=⟨w.heap.size,0,none⟩) (Nat.le_refl _) _).setCell (p:=⟨w.heap.size,1,none⟩) (Nat.le_refl _) _⟩);exact own_mono (ownsRow_setCell_below (a:=⟨w.heap.size,1,none⟩) (ownsRow_setCell_below (a:=⟨w.heap.size,0,none⟩) HO.out (Nat.lt_succ_self _) _) (Nat.lt_succ_self _) _) (Nat.le_succ _)
end Blk
end Go.Proofs.YtidhpmcmbooaoaaGreatDoor
