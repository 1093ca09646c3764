/- . -/
import Derived.OrdersIn
import Derived.RegionIn
import Derived.Orders
import Derived.Maps.AppendAt
import Derived.OwnWalkIn
set_option linter.unusedSimpArgs false
set_option linter.unusedVariables false
namespace Go.Proofs.YtalijhclfppohaaGreatDoor
namespace Grp
open Go
def chk (ops:Array Oper) (N:Nat) (St:List (List Bool)) (fin:List Bool) (dp:List (List Nat)):Bool :=
 decide (fin.count true<N) && St.all fun s=>s.length==N && decide (s.count true<=fin.count true) && (s==fin || (!(Region.ready .any ops s.toArray).isEmpty && (Region.ready .any ops s.toArray).all fun i =>
  St.contains (s.set i true) && (s.set i true).count true==s.count true+1 && (dp.getD i []).all (fun d=>s.getD d false) && decide (i<dp.length)))
theorem wpOpIn_at {F:Fence} {n:Nat} {P:Program} {ops:Array Oper} {Q:Exit->Act->World->Prop} {i:Nat} {o:Oper} {K:Act->World->Prop} {a:Act} {w:World} (ho:ops[i]?=some o)
  (h:if Region.wanted o (yielded ops a.tmps)=true then o.wpIn F n P a w K Q else (∀ f,o.about P w a.eval=some f->F.fn f)/\K (a.put o.dst undef) w):wpOpIn F n P ops Q i K a w:=by
 unfold wpOpIn;rw[ho];exact h
end Grp
namespace Grp
open Go
def chkE (ops:Array Oper) (N:Nat) (dp:List (List Nat)):Bool :=
 ops.size==N && (List.range N).all fun i=>match ops[i]? with
  | none=>false
  | some o=>o.after.toList.all (fun e=> !Region.binds .any e || decide (e.on<i)) && (dp.getD i []).all (fun d=>o.after.toList.any (fun e=>e.on==d && Region.binds .any e))
theorem getD_arr (s:List Bool) (i:Nat) (b:Bool):s.toArray.getD i b=s.getD i b:=by
 simp[Array.getD_eq_getD_getElem?,List.getD_eq_getElem?_getD]
theorem ready_dp {ops:Array Oper} {N:Nat} {dp:List (List Nat)} (hc:chkE ops N dp=true) {s:List Bool} (hl:s.length=N) {i:Nat} (h:i∈Region.ready .any ops s.toArray) :
  i<N/\s.getD i false=false/\∀ d∈dp.getD i [],s.getD d false=true:=by
 unfold chkE at hc;rw[Bool.and_eq_true,beq_iff_eq,List.all_eq_true]at hc;obtain⟨h0,o,ho,h1⟩:=mem_ready.1 h;have hi:i<N:=by rw[<-hc.1];exact(Array.getElem?_eq_some_iff.1 ho).1
 have h2:=hc.2 i (List.mem_range.2 hi);rw[ho]at h2;simp only[Bool.and_eq_true,List.all_eq_true]at h2;rw[getD_arr]at h0;refine⟨hi,?_,fun d hd=> ?_⟩
 ·rw[List.getD_eq_getElem?_getD,List.getElem?_eq_getElem (by omega)]at h0 |-;exact h0
 ·have h3:=h2.2 d hd;rw[List.any_eq_true]at h3;obtain⟨e,he,h4⟩:=h3;rw[Bool.and_eq_true,beq_iff_eq]at h4;have:=h1 e (by simpa using he) h4.2;rw[getD_arr,h4.1]at this;exact this
theorem ready_nil {ops:Array Oper} {N:Nat} {dp:List (List Nat)} (hc:chkE ops N dp=true) {s:List Bool} (hl:s.length=N) (h:Region.ready .any ops s.toArray=[]):s=List.replicate N true:=by
 unfold chkE at hc;rw[Bool.and_eq_true,beq_iff_eq,List.all_eq_true]at hc
 have key:∀ j,j<N->s.getD j false=true:=by
  intro j
  induction j using Nat.strongRecOn with
  | _ j ih =>
   intro hj
   cases hs:s.getD j false with
   | true=>rfl
   | false =>
    exfalso;have h2:=hc.2 j (List.mem_range.2 hj)
    cases ho:ops[j]? with
    | none=>rw[ho]at h2;cases h2
    | some o =>
     rw[ho]at h2;simp only[Bool.and_eq_true,List.all_eq_true,Bool.or_eq_true,Bool.not_eq_true',decide_eq_true_eq]at h2
     have:j∈Region.ready .any ops s.toArray:=by
      refine mem_ready.2 ⟨?_,o,ho,fun e he hbd=> ?_⟩
      ·rw[getD_arr];rw[List.getD_eq_getElem?_getD,List.getElem?_eq_getElem (by omega)]at hs |-;exact hs
      ·have hlt:e.on<j:=(h2.1 e (by simpa using he)).resolve_left (by rw[hbd];simp);rw[getD_arr];exact ih e.on hlt (by omega)
     rw[h]at this;cases this
 apply List.ext_getElem
 ·rw[hl,List.length_replicate]
 ·intro j h1 h2;have:=key j (by omega);rw[List.getD_eq_getElem?_getD,List.getElem?_eq_getElem h1]at this;rw[List.getElem_replicate];exact this
theorem count_set {s:List Bool} {i:Nat} (hi:i<s.length) (h:s.getD i false=false):(s.set i true).count false+1=s.count false:=by
 induction s generalizing i with
 | nil=>exact absurd hi (Nat.not_lt_zero _)
 | cons b t ih =>
  cases i with
  | zero =>
   simp only[List.getD_cons_zero]at h;subst h;simp
  | succ i =>
   simp only[List.getD_cons_succ]at h;have:=ih (by simpa using hi) h;simp only[List.set_cons_succ,List.count_cons];omega
def slu (b:Bool) (v u:Value):Value:=if b=true then v else u
theorem slu_t (v u:Value):slu true v u=v:=rfl
theorem slu_f (v u:Value):slu false v u=u:=rfl
end Grp
namespace Grp
open Go
def clo (dp:List (List Nat)) (s:List Bool):Prop:=∀ i d,d∈dp.getD i []->s.getD i false=true->s.getD d false=true
theorem clo_nil (dp:List (List Nat)) (n:Nat):clo dp (List.replicate n false):=fun i d _ h=>by
 rw[List.getD_eq_getElem?_getD,List.getElem?_replicate]at h;split at h<;>simp at h
theorem clo_set {dp:List (List Nat)} {s:List Bool} (h:clo dp s) {i:Nat} (hi:i<s.length) (hd:∀ d∈dp.getD i [],s.getD d false=true):clo dp (s.set i true):=fun j d hdj hj=>by
 have key:s.getD d false=true->(s.set i true).getD d false=true:=fun hs=>by
  rw[List.getD_eq_getElem?_getD,List.getElem?_set];split
  ·first | rfl | (split<;>first | rfl | omega)
  ·rw[<-List.getD_eq_getElem?_getD];exact hs
 by_cases e:i=j
 ·subst e;exact key (hd d hdj)
 ·refine key (h j d hdj ?_);rw[List.getD_eq_getElem?_getD,List.getElem?_set,if_neg e,<-List.getD_eq_getElem?_getD]at hj;exact hj
theorem any_walkEI {F:Fence} {n:Nat} {P:Program} {ops:Array Oper} {Q:Exit->Act->World->Prop} {N:Nat} {dp:List (List Nat)} (hc:chkE ops N dp=true) {E:Type} (J:E->List Bool->Prop) (fr:E->List Bool->Act) (wd:E->List Bool->World)
  (hS:∀ e s,J e s->s.length=N->∀ i,i<N->s.getD i false=false->(∀ d∈dp.getD i [],s.getD d false=true)->∀ K:Act->World->Prop,(∀ e',J e' (s.set i true)->K (fr e' (s.set i true)) (wd e' (s.set i true)))->wpOpIn F n P ops Q i K (fr e s) (wd e s))
  (hF:∀ e,J e (List.replicate N true)->Q .normal (fr e (List.replicate N true)) (wd e (List.replicate N true))) :
  ∀ fuel e s,J e s->s.length=N->s.count false=fuel->wpAnyIn F n P .any ops Q fuel s.toArray (fr e s) (wd e s):=by
 intro fuel
 induction fuel with
 | zero =>
  intro e s hJ hl hn
  have hr:Region.ready .any ops s.toArray=[]:=by
   cases h:Region.ready .any ops s.toArray with
   | nil=>rfl
   | cons i t =>
    obtain⟨h1,h2,_⟩:=ready_dp hc hl (i:=i) (by rw[h];simp);have:=count_set (s:=s) (i:=i) (by omega) h2;omega
  have e1:=ready_nil hc hl hr;refine⟨hr,?_⟩;rw[e1]at hJ |-;exact hF e hJ
 | succ fuel ih =>
  intro e s hJ hl hn;refine⟨fun hr=> ?_,fun i hi=> ?_⟩
  ·have e1:=ready_nil hc hl hr;rw[e1]at hJ |-;exact hF e hJ
  ·obtain⟨h1,h2,h3⟩:=ready_dp hc hl hi;refine hS e s hJ hl i h1 h2 h3 _ (fun e' hJ'=> ?_);rw[List.setIfInBounds_toArray];have:=count_set (s:=s) (i:=i) (by omega) h2;exact ih e' (s.set i true) hJ' (by rw[List.length_set];exact hl) (by omega)
theorem wp_region_EI {F:Fence} {n:Nat} {P:Program} {id:Nat} {ops:Array Oper} {Q:Exit->Act->World->Prop} {a:Act} {w:World} (hm:P.follows .mixedOrders=true) {N:Nat} {dp:List (List Nat)} (hc:chkE ops N dp=true) {E:Type} (J:E->List Bool->Prop) (fr:E->List Bool->Act) (wd:E->List Bool->World)
  (hS:∀ e s,J e s->s.length=N->∀ i,i<N->s.getD i false=false->(∀ d∈dp.getD i [],s.getD d false=true)->∀ K:Act->World->Prop,(∀ e',J e' (s.set i true)->K (fr e' (s.set i true)) (wd e' (s.set i true)))->wpOpIn F n P ops Q i K (fr e s) (wd e s))
  (hF:∀ e,J e (List.replicate N true)->Q .normal (fr e (List.replicate N true)) (wd e (List.replicate N true)))
  (e:E) (h0:J e (List.replicate N false)) (ha:fr e (List.replicate N false)=a) (hw:wd e (List.replicate N false)=w.drew):(Code.region id ops true).wpIn F n P Q a w:=by
 refine wpIn_region_any hm ?_
 have hN:ops.size=N:=by
  unfold chkE at hc;rw[Bool.and_eq_true,beq_iff_eq]at hc;exact hc.1
 rw[hN];have:=any_walkEI (F:=F) (n:=n) (Q:=Q) hc J fr wd hS hF N e (List.replicate N false) h0 (List.length_replicate ..) (by simp);rw[ha,hw,List.toArray_replicate]at this;exact this
theorem wpOpIn_go {F:Fence} {n:Nat} {P:Program} {ops:Array Oper} {Q:Exit->Act->World->Prop} {i:Nat} {o:Oper} {K:Act->World->Prop} {a:Act} {w:World} (ho:ops[i]?=some o) (hg:o.guard=none) (h:o.wpIn F n P a w K Q):wpOpIn F n P ops Q i K a w :=
 wpOpIn_at ho (by rw[if_pos (by simp[Region.wanted,hg])];exact h)
theorem wpOpIn_append {F:Fence} {n:Nat} {P:Program} {ops:Array Oper} {Q:Exit->Act->World->Prop} {j:Nat} {o:Oper} {K:Act->World->Prop} {a:Act} {w:World} (ho:ops[j]?=some o)
  (hg:o.guard=none) (s x:Operand) (t:TypeId) (hop:o.op=Op.call { callee:=Callee.builtin Builtin.append,args:=#[s,x],argTypes:=#[t,t] }) (base:Nat)
  (e:TypeId) (i:TypeInfo) (z:Value) (size bytes:Nat) (h1:P.underlying t=some (.slice e)) (h2:P.info? e=some i) (h3:i.zero=some z) (h4:i.size=size) (h5:i.bytes=bytes) (h6:z.cells.size=size) (h7:0<size)
  (v:Value) (k:Nat) (xs:List Value) (hs:a.eval s=v) (hown:w.ownsRow base e size v k xs)
  (ad:Addr) (m c:Nat) (news:List Value) (hx:a.eval x=.slice (some ad) m c) (hn:news.length=m*size) (hc:∀ j u,news[j]?=some u->w.cell? (ad.add j)=some u) (h1c:∀ u∈news,u.oneCell'=true)
  (b1:k+m<=maxLen) (b2:(k+m)*bytes<=140737488355328) (hbase:base<=w.heap.size)
  (hK:∀ v' w',w'.ownsRow base e size v' (k+m) (xs++news)->w.grownBy w' v.ownBlock->(v'.ownBlock=v.ownBlock\/v'.ownBlock=some w.heap.size)->K (a.put o.dst v') w'):wpOpIn F n P ops Q j K a w:=by
 refine wpOpIn_go ho hg ?_;obtain⟨v',w',hrun,r1,r2,_,r4⟩:=run_append_own_at (P:=P) w base t o.type e i z size bytes h1 h2 h3 h4 h5 h6 h7 v k xs hown ad m c news hn hc h1c b1 b2 hbase;unfold Oper.wpIn;refine⟨?_,?_⟩
 ·simp[Oper.about,hop,resolve,Target.leads,Sem.run_pure]
 ·rw[Oper.semAt_plain F _ _ (by rw[hop];intro c hc';cases hc')];simp[execOp,hop,resolve,invoke,builtin,hs,hx,hrun,Result.andThen];exact hK v' w' r1 r2 r4
end Grp
end Go.Proofs.YtalijhclfppohaaGreatDoor
