/- . -/
import Derived.Test.YtidhpmcmbooaoaaGreatDoorR17UtfEnc
import Derived.Test.YtidhpmcmbooaoaaGreatDoorR08UtfFirst
import Derived.Test.YtidhpmcmbooaoaaGreatDoorR25FlowOn
import Derived.Test.YtidhpmcmbooaoaaGreatDoorR24FlowScal
import Derived.Test.YtidhpmcmbooaoaaGreatDoorR00UtfPlain
set_option linter.unusedSimpArgs false
set_option linter.unusedVariables false
set_option maxRecDepth 100000
namespace Go.Proofs.YtidhpmcmbooaoaaGreatDoor
namespace Utf
open Go.RowKit
theorem Tryz.info3:(Tryz.prog.info? 3).map (fun i=>(i.zero,i.size,i.bytes))=some (some (.int .i64 0),1,8):=by kernel_rfl
theorem new_cells (w:World) (n:Int) (t:TypeId):∀ j u,([Value.int .i64 n])[j]?=some u->(w.alloc (.cells #[Value.int .i64 n] t)).cell? ((⟨w.heap.size,0,none⟩:Addr).add j)=some u:=by
 intro j u hj;have e:(⟨w.heap.size,0,none⟩:Addr).add j=⟨w.heap.size,j,none⟩:=by unfold Addr.add;split<;>simp_all
 rw[e,cell_of_row _ w.heap.size j #[Value.int .i64 n] t (0,0) (heap_alloc_new w _)];simpa using hj
theorem new_one (n:Int):∀ u∈[Value.int .i64 n],u.oneCell'=true:=by
 intro u hu;simp at hu;subst hu;rfl
theorem step1 {B:Nat} {w wr w1:World} {e:TypeId} {u v':Value} {xs:List Int} {n:Int} {o:Obj} (hown:wr.ownsRow B e 1 u xs.length (xs.map (Value.int .i64))) (hbe:Below B w wr) (hB:B<=wr.heap.size)
  (hown':w1.ownsRow B e 1 v' (xs.length+1) (xs.map (Value.int .i64)++[Value.int .i64 n])) (hgrow:(wr.alloc o).grownBy w1 u.ownBlock) :
  w1.ownsRow B e 1 v' (xs++[n]).length ((xs++[n]).map (Value.int .i64))/\Below B w w1/\B<=w1.heap.size:=by
 refine⟨by rw[List.length_append,List.map_append];exact hown',?_,?_⟩
 ·exact(hbe.alloc hB o).grown hgrow (by simp;omega) (fun k hk=>(hown.lt k hk).1)
 ·have:=hgrow.size;simp at this;omega
theorem dec_split {l:List UInt8} {p:Nat} {xs:List Int} (h:dec l=(xs++(dec (l.drop p)).1,(dec (l.drop p)).2.map (· + p))) (hne:l.drop p≠[]) (hn: ¬ (fst (l.drop p)).1<0) :
  dec l=((xs++[(fst (l.drop p)).1])++(dec (l.drop (p+fk (l.drop p)))).1,(dec (l.drop (p+fk (l.drop p)))).2.map (· + (p+fk (l.drop p)))):=by
 have hx:=dec_next _ hne hn;rw[List.drop_drop]at hx;rw[h,hx];simp[Option.map_map]
 cases (dec (l.drop (p+fk (l.drop p)))).2 with
 | none=>rfl
 | some q=>simp;omega
def decXs (l:List UInt8):List Int:=if (dec l).2=none then (dec l).1 else []
def DecRes (l:List UInt8) (w:World) (e:Ending) (w':World):Prop :=
 ∃ v,e=.returned (.tuple #[v,.agg #[.int .i64 (why (dec l).2),.int .i64 (pos (dec l).2)]])/\w'.ownsRow w.heap.size 3 1 v (decXs l).length ((decXs l).map (Value.int .i64))/\Below w.heap.size w w'
theorem ownsRow_lower {w:World} {B B':Nat} {e:TypeId} {k n:Nat} {v:Value} {xs:List Value} (h:w.ownsRow B e k v n xs) (hb:B'<=B):w.ownsRow B' e k v n xs:=by
 obtain⟨h1,h2⟩:=h;refine⟨h1,?_⟩;rcases h2 with h2 | ⟨g,cap,cur,hv,hg,rest⟩
 ·exact .inl h2
 ·exact .inr ⟨g,cap,cur,hv,Nat.le_trans hb hg,rest⟩
set_option maxHeartbeats 1000000 in
theorem decode_any (s:ByteArray) (w:World) (hs:s.size<=140737488355328) (hx:(dec s.data.toList).1.length<=17592186044416):Calls Tryz.prog 66 #[.string s] w fun e w'=>DecRes s.data.toList w e w':=by
 have hs':s.size<=maxLen:=by unfold maxLen;omega
 have HX:Hid ((dec s.data.toList).1.length<=17592186044416):=hx;clear hx;obtain⟨i0,hi,hz0,hz1,hz2⟩:=info_parts Tryz.info3;go_enter Tryz.func66,Tryz.ntmps66;go_wp2
 go_loopw [4,5] (fun v i wr=>∃ (p:Nat) (xs:List Int),p<=s.size/\xs.length<=p/\i=.int .i64 p/\wr.ownsRow (w.heap.size+1) 3 1 v xs.length (xs.map (Value.int .i64))/\dec s.data.toList=(xs++(dec (s.data.toList.drop p)).1,(dec (s.data.toList.drop p)).2.map (· + p)) /\
   Below (w.heap.size+1) (w.alloc (.cells #[.int .i64 0,.int .i64 0] 33)) wr/\w.heap.size+1<=wr.heap.size) (fun _ i _=>s.size-(intOf i).toNat)
 case atStart=>exact⟨0,[],Nat.zero_le _,Nat.le_refl _,rfl,World.ownsRow_nil _ _ _ _,by simp,Below.refl _ _,by simp⟩
 case round =>
  obtain⟨p,xs,hp,hxl,rfl,hown,hd,hbe,hsz⟩:=hrel;have HD:Hid (dec s.data.toList=(xs++(dec (s.data.toList.drop p)).1,(dec (s.data.toList.drop p)).2.map (· + p))):=hd;clear hd;have hc0:wr.cell? ⟨w.heap.size,0,none⟩=some (.int .i64 0):=(hbe.cell (p:=⟨w.heap.size,0,none⟩) (by simp)).trans (by rw[cell_of_row _ w.heap.size 0 _ _ (0,0) (heap_alloc_new w _)];rfl);have hc1:wr.cell? ⟨w.heap.size,1,none⟩=some (.int .i64 0):=(hbe.cell (p:=⟨w.heap.size,1,none⟩) (by simp)).trans (by rw[cell_of_row _ w.heap.size 1 _ _ (0,0) (heap_alloc_new w _)];rfl);have hf0:wr.frozen? ⟨w.heap.size,0,none⟩=false:=(hbe.frozen (p:=⟨w.heap.size,0,none⟩) (by simp)).trans (by simp);have hf1:wr.frozen? ⟨w.heap.size,1,none⟩=false:=(hbe.frozen (p:=⟨w.heap.size,1,none⟩) (by simp)).trans (by simp);by_cases hlt:p<s.size
  ·have hne:=drop_ne s p hlt;have hf:=fk_pos _ hne;rw[List.length_drop,len_data]at hf;obtain⟨f1,f2,f3,f4⟩:=hf;have hb0:0<=(fst (s.data.toList.drop p)).2:=by omega
   have hb4:(fst (s.data.toList.drop p)).2<=4:=by omega
   have hb5:(p:Int)+(fst (s.data.toList.drop p)).2<=s.size:=by omega
   have H4:Hid (((fk (s.data.toList.drop p):Nat):Int)=(fst (s.data.toList.drop p)).2):=f4;clear f4;by_cases hn:(fst (s.data.toList.drop p)).1<0
   ·have HB:Hid ((dec s.data.toList).2=some p):=by
     have h1:=HD.out;rw[dec_bad _ hne hn]at h1;rw[h1];simp[Hid]
    clear hne;go_wp2_with (first | (go_at_call 89;refine(firstAt_any _ _ _ hs').mono ?_;rintro e w' ⟨rfl,rfl⟩));refine bodyPost_ret (v:=.tuple #[.slice none 0 0,.agg #[.int .i64 8,.int .i64 p]]) (by simp[results,Tryz.results66,go_sem,hc0,hc1]) rfl ?_;refine⟨.slice none 0 0,by rw[HB.out];rfl,?_,?_⟩
    ·have e:decXs s.data.toList=[]:=by unfold decXs;rw[HB.out];rfl
     rw[e];exact World.ownsRow_nil _ _ _ _
    exact((((Below.refl _ _).alloc (Nat.le_refl _) _).trans (hbe.mono (Nat.le_succ _))).setCell (Nat.le_refl _) _).setCell (Nat.le_refl _) _
   ·have HN:=dec_split HD.out hne hn;have HN:Hid (dec s.data.toList=((xs++[(fst (s.data.toList.drop p)).1])++(dec (s.data.toList.drop (p+fk (s.data.toList.drop p)))).1,(dec (s.data.toList.drop (p+fk (s.data.toList.drop p)))).2.map (· + (p+fk (s.data.toList.drop p))))):=HN
    have hxx:xs.length+1<=17592186044416:=by
     have h1:=HX.out;rw[HN.out]at h1;simp only[List.length_append,List.length_cons,List.length_nil]at h1;omega
    clear HD hne;go_wp2_with (first | (go_at_call 89;refine(firstAt_any _ _ _ hs').mono ?_;rintro e w' ⟨rfl,rfl⟩) | (at_builtin;refine wpList_append_own _ rfl _ _ 110 rfl (w.heap.size+1) 3 i0 (.int .i64 0) 1 8 Tryz.underlying110 hi hz0 hz1 hz2 rfl (by decide) _ _ _ rfl (hown.alloc _) ⟨wr.heap.size,0,none⟩ 1 1 [Value.int .i64 (fst (s.data.toList.drop p)).1] rfl rfl (new_cells _ _ _) (new_one _) ?_ ?_ ?_ ?_))
    ·unfold maxLen;omega
    ·omega
    ·simp;omega
    intro v' w1 hown' hgrow _;have R:=step1 hown hbe hsz hown' hgrow;obtain⟨R1,R2,R3⟩:=R;clear hown' hgrow hown hbe hc0 hc1 hf0 hf1;go_wp2;have h4:=H4.out;go_roundw
    case rel=>exact⟨p+fk (s.data.toList.drop p),xs++[(fst (s.data.toList.drop p)).1],by omega,by simp;omega,by rw[<-H4.out];go_num,R1,HN.out,R2,R3⟩
    case measure=>simp[intOf];omega
  ·have HB:Hid (dec s.data.toList=(xs,none)):=by
    have h1:=HD.out;rw[List.drop_of_length_le (by rw[len_data];omega),dec_nil]at h1;simp at h1;exact h1
   clear HD;go_wp2;refine bodyPost_ret (v:=.tuple #[u4,.agg #[.int .i64 0,.int .i64 0]]) (by simp[results,Tryz.results66,go_sem,hc0,hc1]) rfl ?_;refine⟨u4,by rw[HB.out];rfl,?_,?_⟩
   ·have e:decXs s.data.toList=xs:=by unfold decXs;rw[HB.out];rfl
    rw[e];exact ownsRow_lower (ownsRow_setCell_below (ownsRow_setCell_below hown (Nat.lt_succ_self _) _) (Nat.lt_succ_self _) _) (Nat.le_succ _)
   ·exact((((Below.refl _ _).alloc (Nat.le_refl _) _).trans (hbe.mono (Nat.le_succ _))).setCell (Nat.le_refl _) _).setCell (Nat.le_refl _) _
theorem ints_of_own {w:World} {base n:Nat} {v:Value} {zs:List Int} (h:w.ownsRow base 3 1 v n (zs.map (Value.int .i64))):∃ a cap,v=.slice a n cap/\Ints w a n zs:=by
 obtain⟨hl,h⟩:=h;have hn:n=zs.length:=by simpa using hl.symm
 rcases h with ⟨rfl,rfl⟩ | ⟨g,cap,cur,rfl,hb,hg,hc,hm,hs,ht⟩
 ·exact⟨_,_,rfl,hn,fun h=>absurd h (by decide)⟩
 ·refine⟨_,_,rfl,hn,fun _=>⟨g,0,rfl,(Array.getElem?_eq_some_iff.1 hg).1,?_⟩⟩;intro i hi;rw[Nat.zero_add,cell_of_row w g i cur 3 (0,0) hg]
  have h1:(cur.toList.take (n*1))[i]?=some (.int .i64 (zs.getD i 0)):=by
   rw[ht,List.getElem?_map,List.getD_eq_getElem?_getD,List.getElem?_eq_getElem (by omega)];rfl
  rw[List.getElem?_take,if_pos (by omega)]at h1;simpa using h1
theorem Ints.later {w w':World} {a:Option Addr} {len:Nat} {zs:List Int} (h:Ints w a len zs) {B:Nat} (hb:Below B w w') (hB:w.heap.size<=B):Ints w' a len zs:=by
 refine⟨h.1,fun hp=> ?_⟩;obtain⟨b,off,ha,hlt,hc⟩:=h.2 hp;exact⟨b,off,ha,Nat.lt_of_lt_of_le hlt hb.size,fun i hi=>(hb.cell (p:=⟨b,off+i,none⟩) (Nat.lt_of_lt_of_le hlt hB)).trans (hc i hi)⟩
theorem own_later {w w':World} {B:Nat} {e:TypeId} {k n:Nat} {v:Value} {xs:List Value} (h:w.ownsRow B e k v n xs) (hb:Below w.heap.size w w'):w'.ownsRow B e k v n xs:=by
 obtain⟨h1,h2⟩:=h;refine⟨h1,?_⟩;rcases h2 with h2 | ⟨g,cap,cur,hv,hg,hh,rest⟩
 ·exact .inl h2
 ·refine .inr ⟨g,cap,cur,hv,hg,?_,rest⟩;rw[hb.block g (Array.getElem?_eq_some_iff.1 hh).1];exact hh
end Utf
namespace Flw
open Utf Rws Pln
open Go.RowKit
set_option maxHeartbeats 4000000
variable {w:World} {k:Int} {x a:Ln} {ad:Option Addr} {len cap:Nat}
abbrev tv (k:Int) (x a:Ln) (ad:Option Addr) (len cap:Nat):Value:=.agg #[.int .i64 k,.string (mk x),.string (mk a),.slice ad len cap]
def rtx (k:Int) (x:Ln):Bool:=if k=1\/k=5\/k=6\/k=7 then x==[]else if k=2\/k=3 then decide (knd x=k)else if k=4 then (dec x).2.isNone else false
def ran (k:Int) (a:Ln):Bool:=if a=[]then decide (k≠7)else isName a
def rct (k:Int) (n:Nat):Bool:=if k=5 then true else if k=6 then decide (n % 2=0)else decide (n=0)
theorem rightText_any (hx:x.length<=2147483648) (hT:Tb w):Calls Tryz.prog 46 #[tv k x a ad len cap] w fun e w'=>e=.returned (.bool (rtx k x))/\Below w.heap.size w w':=by
 have b1:=below_alloc w (.cells #[.int .i64 k,.string (mk x),.string (mk a),.slice ad len cap] 24);have he:((mk x).toList==[])=(x==[]):=by rw[ByteArray.toList_eq,mk_data]
 by_cases h1:k=1\/k=5\/k=6\/k=7
 ·have HV:Hid (rtx k x=(x==[])):=by unfold rtx;rw[if_pos h1];exact rfl
  clear hT b1;rcases h1 with rfl | rfl | rfl | rfl <;>
  ·go_enter Tryz.func46,Tryz.ntmps46;go_wp2;go_ret;refine⟨?_,below_alloc _ _⟩;rw[HV.out];cases x<;>rfl
 by_cases h2:k=2\/k=3
 ·have HV:Hid (rtx k x=decide (knd x=k)):=by unfold rtx;rw[if_neg h1,if_pos h2];exact rfl
  have hx0:=Bx.new w #[.int .i64 k,.string (mk x),.string (mk a),.slice ad len cap] 24;obtain⟨W,hW⟩:∃ W,w.alloc (.cells #[.int .i64 k,.string (mk x),.string (mk a),.slice ad len cap] 24)=W:=⟨_,rfl⟩;rw[hW]at hx0 b1;have HR:Hid (∀ q:QW W,Calls Tryz.prog 44 #[.string (mk x)] q.w fun e w'=>e=.returned (.int .i64 (knd x))/\Below q.w.heap.size q.w w'):=fun q=>resolve_any x _ (by omega) ((hT.later b1).later q.h).1
  have q0:∀ q:QW W,q.w.cell? ⟨w.heap.size,0,none⟩=some (.int .i64 k):=fun q=>(hx0.later q.h).cell 0
  have q1:∀ q:QW W,q.w.cell? ⟨w.heap.size,1,none⟩=some (.string (mk x)):=fun q=>(hx0.later q.h).cell 1
  have u0:W.cell? ⟨w.heap.size,0,none⟩=some (.int .i64 k):=hx0.cell 0;have HBW:Hid (∀ q:QW W,Below w.heap.size w q.w):=fun q=>b1.trans (q.h.mono b1.size)
  have hNE:Nonempty (QW W):=⟨⟨W,Below.refl _ _⟩⟩;clear hT b1 h1 hx0;generalize knd x=kx at *;rcases h2 with rfl | rfl <;>
  ·go_enter Tryz.func46,Tryz.ntmps46;go_wp2;clear hW;refine wp_region_class (by kernel_rfl) (by kernel_rfl) ?_
   repeat (go_big_quiet_step (first | (go_at_call 44;refine calls_class _ (HR.out _))))
   refine wpQuiet_nil ?_;intro _ hw';obtain⟨q,hw''⟩:=hw';subst hw'';have hbel:=HBW.out q;clear q0 q1;go_wp2;go_ret;refine⟨?_,hbel⟩;rw[HV.out]
   first | rfl | (refine congrArg (fun q=>Ending.returned (.bool q)) ?_;rw[Bool.eq_iff_iff];simp)
 by_cases h4:k=4
 ·subst h4;have HV:Hid (rtx 4 x=(dec x).2.isNone):=by unfold rtx;rw[if_neg h1,if_neg h2,if_pos rfl];exact rfl
  have hdl:=dec_len x.length x (Nat.le_refl _)
  have HD:Hid (Calls Tryz.prog 66 #[.string (mk x)] (w.alloc (.cells #[.int .i64 4,.string (mk x),.string (mk a),.slice ad len cap] 24)) fun e w'=>∃ v,e=.returned (.tuple #[v,.agg #[.int .i64 (why (dec x).2),.int .i64 (pos (dec x).2)]])/\Hid (Below w.heap.size w w')):=by
   have:=decode_any (mk x) (w.alloc (.cells #[.int .i64 4,.string (mk x),.string (mk a),.slice ad len cap] 24)) (by rw[mk_size];omega) (by rw[mk_data];omega);rw[mk_data]at this;exact this.mono (fun e w' ⟨v,h1,h2,h3⟩=>⟨v,h1,b1.trans (h3.mono (by simp))⟩)
  clear hT b1 h1 h2 hdl
  cases hd:(dec x).2 with
  | none =>
   rw[hd]at HD HV;go_enter Tryz.func46,Tryz.ntmps46;go_wp2_with fail;refine HD.out.mono ?_;rintro e w3 ⟨v,rfl,hb⟩;rw[show why none=0 from rfl];generalize pos none=P0;go_wp2;go_ret;refine⟨by rw[HV.out];rfl,?_⟩;exact hb.out.alloc hb.out.size _
  | some q =>
   rw[hd]at HD HV;go_enter Tryz.func46,Tryz.ntmps46;go_wp2_with fail;refine HD.out.mono ?_;rintro e w3 ⟨v,rfl,hb⟩;rw[show why (some q)=8 from rfl];generalize pos (some q)=P0;go_wp2;go_ret;refine⟨by rw[HV.out];rfl,?_⟩;exact hb.out.alloc hb.out.size _
 ·have HV:Hid (rtx k x=false):=by unfold rtx;rw[if_neg h1,if_neg h2,if_neg h4];exact rfl
  have e1:(k==1)=false:=by simpa using fun e=>h1 (.inl e)
  have e5:(k==5)=false:=by simpa using fun e=>h1 (.inr (.inl e))
  have e6:(k==6)=false:=by simpa using fun e=>h1 (.inr (.inr (.inl e)))
  have e7:(k==7)=false:=by simpa using fun e=>h1 (.inr (.inr (.inr e)))
  have e2:(k==2)=false:=by simpa using fun e=>h2 (.inl e)
  have e3:(k==3)=false:=by simpa using fun e=>h2 (.inr e)
  have e4:(k==4)=false:=by simpa using h4
  clear h1 h2 h4 hT b1;go_enter Tryz.func46,Tryz.ntmps46;go_wp2;go_ret;exact⟨by rw[HV.out];rfl,below_alloc _ _⟩
theorem rightAnchor_any (ha:a.length<=2147483648):Calls Tryz.prog 47 #[tv k x a ad len cap] w fun e w'=>e=.returned (.bool (ran k a))/\Below w.heap.size w w':=by
 have he:((mk a).toList==[])=(a==[]):=by rw[ByteArray.toList_eq,mk_data]
 by_cases h0:a=[]
 ·have HV:Hid (ran k a=decide (k≠7)):=by unfold ran;rw[if_pos h0];exact rfl
  subst h0;by_cases h7:k=7
  ·subst h7;go_enter Tryz.func47,Tryz.ntmps47;go_wp2;go_ret;exact⟨by rw[HV.out];rfl,below_alloc _ _⟩
  ·have e7:(k != 7)=true:=by simpa using h7
   have e8:(k==7)=false:=by simpa using h7
   go_enter Tryz.func47,Tryz.ntmps47;go_wp2;go_ret;exact⟨by rw[HV.out,decide_eq_true h7];rfl,below_alloc _ _⟩
 ·have HV:Hid (ran k a=isName a):=by unfold ran;rw[if_neg h0];exact rfl
  have he2:(a==[])=false:=by simpa using h0
  rw[he2]at he;have HN:Hid (∀ w,Calls Tryz.prog 69 #[.string (mk a)] w fun e w'=>e=.returned (.bool (isName a))/\w=w'):=fun w=>name0_any a w (by omega)
  go_enter Tryz.func47,Tryz.ntmps47;go_wp2_with (go_at_call 69;refine(HN.out _).mono ?_;rintro e w3 ⟨rfl,rfl⟩);go_ret;exact⟨by rw[HV.out];rfl,below_alloc _ _⟩
theorem rightCount_any (hlen:len<=9223372036854775807):Calls Tryz.prog 48 #[tv k x a ad len cap] w fun e w'=>e=.returned (.bool (rct k len))/\Below w.heap.size w w':=by
 by_cases h5:k=5
 ·subst h5;go_enter Tryz.func48,Tryz.ntmps48;go_wp2;go_ret;exact⟨rfl,below_alloc _ _⟩
 have e5:(k==5)=false:=by simpa using h5
 by_cases h6:k=6
 ·subst h6;have HV:Hid (rct 6 len=decide (len % 2=0)):=rfl;go_enter Tryz.func48,Tryz.ntmps48;go_wp2;go_ret;refine⟨?_,below_alloc _ _⟩;rw[HV.out];refine congrArg (fun q=>Ending.returned (.bool q)) ?_;rw[Bool.eq_iff_iff];simp;omega
 ·have e6:(k==6)=false:=by simpa using h6
  have HV:Hid (rct k len=decide (len=0)):=by unfold rct;rw[if_neg h5,if_neg h6];exact rfl
  go_enter Tryz.func48,Tryz.ntmps48;go_wp2;go_ret;refine⟨?_,below_alloc _ _⟩;rw[HV.out];refine congrArg (fun q=>Ending.returned (.bool q)) ?_;rw[Bool.eq_iff_iff];simp
def ral (k:Int) (x a:Ln) (n:Nat):Bool:=rtx k x && ran k a && rct k n
theorem rightAlone_any (hx:x.length<=2147483648) (ha:a.length<=2147483648) (hlen:len<=9223372036854775807) (hT:Tb w):Calls Tryz.prog 27 #[tv k x a ad len cap] w fun e w'=>e=.returned (.bool (ral k x a len))/\Below w.heap.size w w':=by
 have b1:=below_alloc w (.cells #[.int .i64 k,.string (mk x),.string (mk a),.slice ad len cap] 24);have hx0:=Bx.new w #[.int .i64 k,.string (mk x),.string (mk a),.slice ad len cap] 24;obtain⟨W,hW⟩:∃ W,w.alloc (.cells #[.int .i64 k,.string (mk x),.string (mk a),.slice ad len cap] 24)=W:=⟨_,rfl⟩;rw[hW]at hx0 b1
 have H1:Hid (Calls Tryz.prog 46 #[.agg #[.int .i64 k,.string (mk x),.string (mk a),.slice ad len cap]] W fun e w'=>e=.returned (.bool (rtx k x))/\Hid (Below w.heap.size w w')/\w'.cell? ⟨w.heap.size,0,none⟩=some (.int .i64 k)/\w'.cell? ⟨w.heap.size,1,none⟩=some (.string (mk x))/\w'.cell? ⟨w.heap.size,2,none⟩=some (.string (mk a))/\w'.cell? ⟨w.heap.size,3,none⟩=some (.slice ad len cap)) :=
  (rightText_any hx (hT.later b1)).mono (fun e w' h=>⟨h.1,b1.trans (h.2.mono b1.size),(hx0.later h.2).cell 0,(hx0.later h.2).cell 1,(hx0.later h.2).cell 2,(hx0.later h.2).cell 3⟩)
 have H2:Hid (∀ w1,Hid (Below w.heap.size w w1)->w1.cell? ⟨w.heap.size,0,none⟩=some (.int .i64 k)->w1.cell? ⟨w.heap.size,1,none⟩=some (.string (mk x))->w1.cell? ⟨w.heap.size,2,none⟩=some (.string (mk a))->w1.cell? ⟨w.heap.size,3,none⟩=some (.slice ad len cap)->Calls Tryz.prog 47 #[.agg #[.int .i64 k,.string (mk x),.string (mk a),.slice ad len cap]] w1 fun e w'=>e=.returned (.bool (ran k a))/\Hid (Below w.heap.size w w')/\w'.cell? ⟨w.heap.size,0,none⟩=some (.int .i64 k)/\w'.cell? ⟨w.heap.size,1,none⟩=some (.string (mk x))/\w'.cell? ⟨w.heap.size,2,none⟩=some (.string (mk a))/\w'.cell? ⟨w.heap.size,3,none⟩=some (.slice ad len cap)):=fun w1 hb g0 g1 g2 g3 =>
  (rightAnchor_any ha).mono (fun e w' h=>⟨h.1,hb.out.trans (h.2.mono hb.out.size),(h.2.cell (p:=⟨w.heap.size,0,none⟩) (World.block_lt_of_cell? w1 _ g0)).trans g0,(h.2.cell (p:=⟨w.heap.size,1,none⟩) (World.block_lt_of_cell? w1 _ g1)).trans g1,(h.2.cell (p:=⟨w.heap.size,2,none⟩) (World.block_lt_of_cell? w1 _ g2)).trans g2,(h.2.cell (p:=⟨w.heap.size,3,none⟩) (World.block_lt_of_cell? w1 _ g3)).trans g3⟩)
 have H3:Hid (∀ w1,Hid (Below w.heap.size w w1)->Calls Tryz.prog 48 #[.agg #[.int .i64 k,.string (mk x),.string (mk a),.slice ad len cap]] w1 fun e w'=>e=.returned (.bool (rct k len))/\Hid (Below w.heap.size w w')):=fun w1 hb=>(rightCount_any hlen).mono (fun e w' h=>⟨h.1,hb.out.trans (h.2.mono hb.out.size)⟩)
 obtain⟨u0,u1,u2,u3⟩:=hx0.c4;have HV:Hid (ral k x a len=(rtx k x && ran k a && rct k len)):=rfl;clear hT b1 hx0 hx ha;generalize rtx k x=R1 at *;generalize ran k a=R2 at *;generalize rct k len=R3 at *;generalize ral k x a len=R0 at *;cases R1
 ·go_enter Tryz.func27,Tryz.ntmps27;go_wp2_with (go_at_call 46;refine H1.out.mono ?_;rintro e w3 ⟨rfl,hb,g0,g1,g2,g3⟩);go_ret;exact⟨by rw[HV.out];rfl,hb.out⟩
 cases R2
 ·go_enter Tryz.func27,Tryz.ntmps27;go_wp2_with (first | (go_at_call 46;refine H1.out.mono ?_;rintro e w3 ⟨rfl,hb,g0,g1,g2,g3⟩) | (go_at_call 47;refine(H2.out _ hb g0 g1 g2 g3).mono ?_;clear hb g0 g1 g2 g3;rintro e w4 ⟨rfl,hb,g0,g1,g2,g3⟩));go_ret;exact⟨by rw[HV.out];rfl,hb.out⟩
 ·go_enter Tryz.func27,Tryz.ntmps27;go_wp2_with (first | (go_at_call 46;refine H1.out.mono ?_;rintro e w3 ⟨rfl,hb,g0,g1,g2,g3⟩) | (go_at_call 47;refine(H2.out _ hb g0 g1 g2 g3).mono ?_;clear hb g0 g1 g2 g3;rintro e w4 ⟨rfl,hb,g0,g1,g2,g3⟩) | (go_at_call 48;refine(H3.out _ hb).mono ?_;rintro e w5 ⟨rfl,hb5⟩));go_ret;exact⟨by rw[HV.out];rfl,hb5.out⟩
theorem isKeyPlace_any (i:Nat) (hi:i<=9223372036854775807):Calls Tryz.prog 28 #[tv k x a ad len cap,.int .i64 (i:Int)] w fun e w'=>e=.returned (.bool (decide (k=6) && decide (i % 2=0)))/\Below w.heap.size w w':=by
 by_cases h6:k=6
 ·subst h6;go_enter Tryz.func28,Tryz.ntmps28;go_wp2;go_ret;refine⟨?_,below_alloc _ _⟩;refine congrArg (fun q=>Ending.returned (.bool q)) ?_;rw[Bool.eq_iff_iff];simp;omega
 ·have e6:(k==6)=false:=by simpa using h6
  go_enter Tryz.func28,Tryz.ntmps28;go_wp2;go_ret;exact⟨by rw[decide_eq_false h6];rfl,below_alloc _ _⟩
def kyl (k:Int) (a:Ln):Bool:=decide (1<=k) && decide (k<=4) && a==[]
theorem isKey_any:Calls Tryz.prog 29 #[tv k x a ad len cap] w fun e w'=>e=.returned (.bool (kyl k a))/\Below w.heap.size w w':=by
 by_cases h:1<=k/\k<=4
 ·have HV:Hid (kyl k a=(a==[])):=by unfold kyl;rw[decide_eq_true h.1,decide_eq_true h.2];exact rfl
  have hk:k=1\/k=2\/k=3\/k=4:=by omega
  have he:((mk a).toList==[])=(a==[]):=by rw[ByteArray.toList_eq,mk_data]
  clear h;rcases hk with rfl | rfl | rfl | rfl <;>
  ·go_enter Tryz.func29,Tryz.ntmps29;go_wp2;go_ret;refine⟨?_,below_alloc _ _⟩;rw[HV.out];cases a<;>rfl
 ·have HV:Hid (kyl k a=false):=by
   unfold kyl;by_cases h1:1<=k
   ·rw[decide_eq_false (show ¬ k<=4 from fun h4=>h ⟨h1,h4⟩)];simp[Hid]
   ·rw[decide_eq_false h1];exact rfl
  have e1:(k==1)=false:=by simp;omega
  have e2:(k==2)=false:=by simp;omega
  have e3:(k==3)=false:=by simp;omega
  have e4:(k==4)=false:=by simp;omega
  clear h;go_enter Tryz.func29,Tryz.ntmps29;go_wp2;go_ret;exact⟨by rw[HV.out];rfl,below_alloc _ _⟩
end Flw
namespace Tre
open Utf Rws Pln Flw
open Go.RowKit
set_option maxHeartbeats 4000000
abbrev fV (y z:Int):Value:=.agg #[.int .i64 y,.int .i64 z]
abbrev rV (c:Int) (x:Ln) (z:Int):Value:=.agg #[.int .i64 c,.string (mk x),.int .i64 z]
theorem faultOf_any (y c:Int) (x:Ln) (z:Int) (w:World):Calls Tryz.prog 31 #[.int .i64 y,rV c x z] w fun e w'=>e=.returned (fV y z)/\Below w.heap.size w w':=by
 go_enter Tryz.func31,Tryz.ntmps31;go_wp2;exact bodyPost_ret (v:=fV y z) (by simp[results,Tryz.results31,go_sem]) rfl ⟨rfl,(below_alloc _ _).trans ((below_alloc _ _).mono (by simp))⟩
def onB (p:Pp) (k:Int):Bool:=p.tag != 0 && p.tag != k
theorem on_yes (p:Pp) (k:Int) (x a:Ln) (ad:Option Addr) (len cap:Nat) (c:Int) (tx:Ln) (z:Int) (w:World) (h:onB p k=false) :
  Calls Tryz.prog 40 #[pV p,tv k x a ad len cap,rV c tx z] w fun e w'=>e=.returned (.tuple #[tv k x p.anc ad len cap,fV 0 0])/\Below w.heap.size w w':=by
 obtain⟨pa,pt⟩:=p
 have HB:Hid (∀ c0 t0 c1 t1 c2 t2 c3 t3 c4 t4,Below w.heap.size w (((((w.alloc (.cells c0 t0)).alloc (.cells c1 t1)).alloc (.cells c2 t2)).alloc (.cells c3 t3)).alloc (.cells c4 t4))):=fun c0 t0 c1 t1 c2 t2 c3 t3 c4 t4 =>
  ((((below_alloc w _).alloc (by simp) _).alloc (by simp;omega) _).alloc (by simp;omega) _).alloc (by simp;omega) _
 by_cases ht:pt=0
 ·subst ht;clear h;go_enter Tryz.func40,Tryz.ntmps40;go_wp2;exact bodyPost_ret (v:=.tuple #[tv k x pa ad len cap,fV 0 0]) (by simp[results,Tryz.results40,go_sem]) rfl ⟨rfl,HB.out _ _ _ _ _ _ _ _ _ _⟩
 ·have ht0:(pt != 0)=true:=by simpa using ht
  have hk:(pt != k)=false:=by unfold onB at h;simp only at h;rw[ht0]at h;simpa using h
  have hk2:pt=k:=by simpa using hk
  subst hk2;clear h hk;go_enter Tryz.func40,Tryz.ntmps40;go_wp2;exact bodyPost_ret (v:=.tuple #[tv pt x pa ad len cap,fV 0 0]) (by simp[results,Tryz.results40,go_sem]) rfl ⟨rfl,HB.out _ _ _ _ _ _ _ _ _ _⟩
theorem five_new (w:World) (c0 c1 c2 c3 c4:Array Value) (t0 t1 t2 t3 t4:TypeId) :
  Below w.heap.size w (((((w.alloc (.cells c0 t0)).alloc (.cells c1 t1)).alloc (.cells c2 t2)).alloc (.cells c3 t3)).alloc (.cells c4 t4)) /\
  Bx (((((w.alloc (.cells c0 t0)).alloc (.cells c1 t1)).alloc (.cells c2 t2)).alloc (.cells c3 t3)).alloc (.cells c4 t4)) (w.heap.size+1+1+1) c3 t3 /\
  Bx (((((w.alloc (.cells c0 t0)).alloc (.cells c1 t1)).alloc (.cells c2 t2)).alloc (.cells c3 t3)).alloc (.cells c4 t4)) (w.heap.size+1+1+1+1) c4 t4 /\
  Bx (((((w.alloc (.cells c0 t0)).alloc (.cells c1 t1)).alloc (.cells c2 t2)).alloc (.cells c3 t3)).alloc (.cells c4 t4)) w.heap.size c0 t0 /\
  Bx (((((w.alloc (.cells c0 t0)).alloc (.cells c1 t1)).alloc (.cells c2 t2)).alloc (.cells c3 t3)).alloc (.cells c4 t4)) (w.heap.size+1) c1 t1 /\
  Bx (((((w.alloc (.cells c0 t0)).alloc (.cells c1 t1)).alloc (.cells c2 t2)).alloc (.cells c3 t3)).alloc (.cells c4 t4)) (w.heap.size+1+1) c2 t2:=by
 have s1:(w.alloc (.cells c0 t0)).heap.size=w.heap.size+1:=World.size_alloc _ _;have s2:((w.alloc (.cells c0 t0)).alloc (.cells c1 t1)).heap.size=w.heap.size+1+1:=by rw[World.size_alloc,s1]
 have s3:(((w.alloc (.cells c0 t0)).alloc (.cells c1 t1)).alloc (.cells c2 t2)).heap.size=w.heap.size+1+1+1:=by rw[World.size_alloc,s2]
 have s4:((((w.alloc (.cells c0 t0)).alloc (.cells c1 t1)).alloc (.cells c2 t2)).alloc (.cells c3 t3)).heap.size=w.heap.size+1+1+1+1:=by rw[World.size_alloc,s3]
 have b1:=below_alloc w (.cells c0 t0);have b2:=below_alloc (w.alloc (.cells c0 t0)) (.cells c1 t1);have b3:=below_alloc ((w.alloc (.cells c0 t0)).alloc (.cells c1 t1)) (.cells c2 t2);have b4:=below_alloc (((w.alloc (.cells c0 t0)).alloc (.cells c1 t1)).alloc (.cells c2 t2)) (.cells c3 t3);have b5:=below_alloc ((((w.alloc (.cells c0 t0)).alloc (.cells c1 t1)).alloc (.cells c2 t2)).alloc (.cells c3 t3)) (.cells c4 t4);have n0:=(((Bx.new w c0 t0).later b2).later b3).later b4 |>.later b5
 have n1:=((Bx.new (w.alloc (.cells c0 t0)) c1 t1).later b3).later b4 |>.later b5
 have n2:=((Bx.new ((w.alloc (.cells c0 t0)).alloc (.cells c1 t1)) c2 t2).later b4).later b5;have n3:=(Bx.new (((w.alloc (.cells c0 t0)).alloc (.cells c1 t1)).alloc (.cells c2 t2)) c3 t3).later b5;have n4:=Bx.new ((((w.alloc (.cells c0 t0)).alloc (.cells c1 t1)).alloc (.cells c2 t2)).alloc (.cells c3 t3)) c4 t4;rw[s1]at n1;rw[s2]at n2;rw[s3]at n3;rw[s4]at n4;have a2:=b1.trans (b2.mono b1.size);have a3:=a2.trans (b3.mono a2.size);have a4:=a3.trans (b4.mono a3.size);exact⟨a4.trans (b5.mono a4.size),n3,n4,n0,n1,n2⟩
theorem fill6_is {w w6:World} {B K3 K4:Nat} (h3:Bx w6 K3 zT 24) (h4:Bx w6 K4 #[.int .i64 0,.int .i64 0] 33) (hne:K3≠K4) (hb:Below B w w6) (hB3:B<=K3) (hB4:B<=K4) (x0 x1 x2 x3 y0 y1:Value) :
  Below B w (fill6 w6 K3 K4 x0 x1 x2 x3 y0 y1)/\Bx (fill6 w6 K3 K4 x0 x1 x2 x3 y0 y1) K3 #[x0,x1,x2,x3] 24/\Bx (fill6 w6 K3 K4 x0 x1 x2 x3 y0 y1) K4 #[y0,y1] 33:=by
 refine⟨((below_fill4 hb hB3 x0 x1 x2 x3).setCell (by show _<=K4;omega) _).setCell (by show _<=K4;omega) _,((h3.fill4 rfl x0 x1 x2 x3).other hne _ _).other hne _ _,?_⟩;exact((h4.fill4o (fun e=>hne e.symm) x0 x1 x2 x3).set 0 y0).set 1 y1
def C6 (w:World) (K3 K4:Nat):Prop:=w.cell? ⟨K3,0,none⟩=some (.int .i64 0)/\w.cell? ⟨K3,1,none⟩=some (.string ⟨#[]⟩)/\w.cell? ⟨K3,2,none⟩=some (.string ⟨#[]⟩)/\w.cell? ⟨K3,3,none⟩=some (.slice none 0 0)/\w.cell? ⟨K4,0,none⟩=some (.int .i64 0)/\w.cell? ⟨K4,1,none⟩=some (.int .i64 0) /\
 w.frozen? ⟨K3,0,none⟩=false/\w.frozen? ⟨K3,1,none⟩=false/\w.frozen? ⟨K3,2,none⟩=false/\w.frozen? ⟨K3,3,none⟩=false/\w.frozen? ⟨K4,0,none⟩=false/\w.frozen? ⟨K4,1,none⟩=false
theorem c6_of {w:World} {K3 K4:Nat} (h3:Bx w K3 zT 24) (h4:Bx w K4 #[.int .i64 0,.int .i64 0] 33):C6 w K3 K4:=⟨h3.cell 0,h3.cell 1,h3.cell 2,h3.cell 3,h4.cell 0,h4.cell 1,h3.fz 0,h3.fz 1,h3.fz 2,h3.fz 3,h4.fz 0,h4.fz 1⟩
theorem on_no (p:Pp) (k:Int) (x a:Ln) (ad:Option Addr) (len cap:Nat) (c:Int) (tx:Ln) (z:Int) (w:World) (h:onB p k=true) :
  Calls Tryz.prog 40 #[pV p,tv k x a ad len cap,rV c tx z] w fun e w'=>e=.returned (.tuple #[.agg zT,fV 12 z])/\Below w.heap.size w w':=by
 obtain⟨pa,pt⟩:=p;unfold onB at h;simp only[Bool.and_eq_true]at h;have ht0:(pt != 0)=true:=h.1;have hk:(pt != k)=true:=h.2;have N5:Hid (_/\_/\_/\_/\_/\_):=five_new w #[.string (mk pa),.int .i64 pt] #[.int .i64 k,.string (mk x),.string (mk a),.slice ad len cap] #[.int .i64 c,.string (mk tx),.int .i64 z] zT #[.int .i64 0,.int .i64 0] 49 24 45 24 33;clear h;go_enter Tryz.func40,Tryz.ntmps40;go_wp2_with fail;change Calls _ _ _ (((((w.alloc (.cells #[.string (mk pa),.int .i64 pt] 49)).alloc (.cells #[.int .i64 k,.string (mk x),.string (mk a),.slice ad len cap] 24)).alloc (.cells #[.int .i64 c,.string (mk tx),.int .i64 z] 45)).alloc (.cells zT 24)).alloc (.cells #[.int .i64 0,.int .i64 0] 33)) _;generalize ((((w.alloc (.cells #[.string (mk pa),.int .i64 pt] 49)).alloc (.cells #[.int .i64 k,.string (mk x),.string (mk a),.slice ad len cap] 24)).alloc (.cells #[.int .i64 c,.string (mk tx),.int .i64 z] 45)).alloc (.cells zT 24)).alloc (.cells #[.int .i64 0,.int .i64 0] 33)=W5 at N5 |-;obtain⟨K4,hK4⟩:∃ K4,K4=w.heap.size+1+1+1+1:=⟨_,rfl⟩;obtain⟨K3,hK3⟩:∃ K3,K3=w.heap.size+1+1+1:=⟨_,rfl⟩;rw[<-hK4,<-hK3]at N5;rw[<-hK4,<-hK3];have M5:Hid (Below w.heap.size w W5/\Bx W5 K3 zT 24/\Bx W5 K4 #[.int .i64 0,.int .i64 0] 33):=⟨N5.out.1,N5.out.2.1,N5.out.2.2.1⟩;have hne:K3≠K4:=by omega
 have hne':K4≠K3:=by omega
 have hle3:w.heap.size<=K3:=by omega
 have hle4:w.heap.size<=K4:=by omega
 clear N5 hK4 hK3;refine(faultOf_any 12 c tx z W5).mono ?_;rintro e w6 ⟨rfl,H6⟩;have B6:Hid (Below w.heap.size w w6/\Bx w6 K3 zT 24/\Bx w6 K4 #[.int .i64 0,.int .i64 0] 33):=⟨M5.out.1.trans (H6.mono M5.out.1.size),M5.out.2.1.later H6,M5.out.2.2.later H6⟩;clear M5 H6;obtain⟨c0,c1,c2,c3,c4,c5,z0,z1,z2,z3,z4,z5⟩:=c6_of B6.out.2.1 B6.out.2.2;have HF:Hid (_/\_/\_):=fill6_is B6.out.2.1 B6.out.2.2 (by omega) B6.out.1 (by omega) (by omega) (.int .i64 0) (.string ⟨#[]⟩) (.string ⟨#[]⟩) (.slice none 0 0) (.int .i64 12) (.int .i64 z);clear B6;go_wp2;change bodyPost _ _ _ _ _ (fill6 w6 K3 K4 (.int .i64 0) (.string ⟨#[]⟩) (.string ⟨#[]⟩) (.slice none 0 0) (.int .i64 12) (.int .i64 z));generalize fill6 w6 K3 K4 (.int .i64 0) (.string ⟨#[]⟩) (.string ⟨#[]⟩) (.slice none 0 0) (.int .i64 12) (.int .i64 z)=WF at HF |-;obtain⟨j0,j1,j2,j3⟩:=HF.out.2.1.c4;obtain⟨j4,j5⟩:=HF.out.2.2.c2;exact bodyPost_ret (v:=.tuple #[.agg #[.int .i64 0,.string ⟨#[]⟩,.string ⟨#[]⟩,.slice none 0 0],.agg #[.int .i64 12,.int .i64 z]]) (by simp[results,Tryz.results40,go_sem,j0,j1,j2,j3,j4,j5]) rfl ⟨rfl,HF.out.1⟩
end Tre
namespace Tre
open Utf Rws Pln Flw
open Go.RowKit
set_option maxHeartbeats 4000000
def orB (p:Pp) (k:Int) (a:Ln):Bool:=a != [] || (k != 5 && k != 6 && p.tag != 0)
theorem onRows_none (k:Int) (x a:Ln) (ad:Option Addr) (len cap:Nat) (c:Int) (tx:Ln) (z:Int) (w:World) :
  Calls Tryz.prog 22 #[pV ⟨[],0⟩,tv k x a ad len cap,rV c tx z] w fun e w'=>e=.returned (.tuple #[tv k x a ad len cap,fV 0 0])/\Below w.heap.size w w':=by
 have he:=eql_props (mk []) ⟨#[]⟩ 0 0;rw[show ((mk []).toList==(⟨#[]⟩:ByteArray).toList && (0:Int)==0)=true by rw[ByteArray.toList_eq,ByteArray.toList_eq];rfl]at he;have HB:Hid (∀ c0 t0 c1 t1 c2 t2 c3 t3 c4 t4,Below w.heap.size w (((((w.alloc (.cells c0 t0)).alloc (.cells c1 t1)).alloc (.cells c2 t2)).alloc (.cells c3 t3)).alloc (.cells c4 t4))):=fun c0 t0 c1 t1 c2 t2 c3 t3 c4 t4=>(five_new w c0 c1 c2 c3 c4 t0 t1 t2 t3 t4).1
 go_enter Tryz.func22,Tryz.ntmps22;go_wp2;exact bodyPost_ret (v:=.tuple #[tv k x a ad len cap,fV 0 0]) (by simp[results,Tryz.results22,go_sem]) rfl ⟨rfl,HB.out _ _ _ _ _ _ _ _ _ _⟩
theorem five_call {f:FuncId} {args:Array Value} {E:Ending} {w:World} (h:∀ w0,Calls Tryz.prog f args w0 fun e w'=>e=E/\Below w0.heap.size w0 w') (c0 c1 c2:Array Value) (t0 t1 t2:TypeId) :
  Calls Tryz.prog f args (((((w.alloc (.cells c0 t0)).alloc (.cells c1 t1)).alloc (.cells c2 t2)).alloc (.cells zT 24)).alloc (.cells #[.int .i64 0,.int .i64 0] 33)) fun e w'=>e=E/\Hid (Below w.heap.size w w'/\Bx w' (w.heap.size+1+1+1) zT 24/\Bx w' (w.heap.size+1+1+1+1) #[.int .i64 0,.int .i64 0] 33) :=
 have n:=five_new w c0 c1 c2 zT #[.int .i64 0,.int .i64 0] t0 t1 t2 24 33
 (h _).mono fun e w' g=>⟨g.1,n.1.trans (g.2.mono n.1.size),n.2.1.later g.2,n.2.2.1.later g.2⟩
theorem onRows_bad (p:Pp) (k:Int) (x a:Ln) (ad:Option Addr) (len cap:Nat) (c:Int) (tx:Ln) (z:Int) (w:World) (hp:samePp p ⟨[],0⟩=false) (h:orB p k a=true):Calls Tryz.prog 22 #[pV p,tv k x a ad len cap,rV c tx z] w fun e w'=>e=.returned (.tuple #[.agg zT,fV 3 z])/\Below w.heap.size w w':=by
 obtain⟨pa,pt⟩:=p;have he:=eql_props (mk pa) ⟨#[]⟩ pt 0;rw[show ((mk pa).toList==(⟨#[]⟩:ByteArray).toList && pt==0)=false by rw[ByteArray.toList_eq,mk_data,ByteArray.toList_eq];exact hp]at he;have e1:((mk a).toList==[])=(a==[]):=by rw[ByteArray.toList_eq,mk_data]
 have e2:(mk a).toList.isEmpty=(a==[]):=by rw[ByteArray.toList_eq,mk_data];cases a<;>rfl
 have hc:(a==[])=false/\(k=5\/k=6\/(k != 5)=true/\(k != 6)=true)\/(a==[])=true/\(k != 5)=true/\(k != 6)=true/\(pt != 0)=true:=by
  unfold orB at h;by_cases ha:a=[]
  ·subst ha;simp only[bne_self_eq_false,Bool.false_or,Bool.and_eq_true]at h;exact .inr ⟨rfl,h.1.1,h.1.2,h.2⟩
  ·refine .inl ⟨by simpa using ha,?_⟩;by_cases h5:k=5
   ·exact .inl h5
   by_cases h6:k=6
   ·exact .inr (.inl h6)
   ·exact .inr (.inr ⟨by simpa using h5,by simpa using h6⟩)
 clear h hp;rcases hc with ⟨ha,rfl | rfl | ⟨q5,q6⟩⟩ | ⟨ha,q5,q6,qt⟩
 all_goals
  rw[ha]at e1 e2;clear ha;go_enter Tryz.func22,Tryz.ntmps22;go_wp2_with fail;refine(five_call (faultOf_any 3 c tx z) _ _ _ _ _ _).mono ?_;rintro e w6 ⟨rfl,B6⟩;obtain⟨K4,hK4⟩:∃ K4,K4=w.heap.size+1+1+1+1:=⟨_,rfl⟩;obtain⟨K3,hK3⟩:∃ K3,K3=w.heap.size+1+1+1:=⟨_,rfl⟩;rw[<-hK4,<-hK3]at B6 |-;have hne:K3≠K4:=by omega
  have hne':K4≠K3:=by omega
  have hle3:w.heap.size<=K3:=by omega
  have hle4:w.heap.size<=K4:=by omega
  clear hK4 hK3;obtain⟨c0,c1,c2,c3,c4,c5,z0,z1,z2,z3,z4,z5⟩:=c6_of B6.out.2.1 B6.out.2.2;have HF:Hid (_/\_/\_):=fill6_is B6.out.2.1 B6.out.2.2 (by omega) B6.out.1 (by omega) (by omega) (.int .i64 0) (.string ⟨#[]⟩) (.string ⟨#[]⟩) (.slice none 0 0) (.int .i64 3) (.int .i64 z);clear B6;go_wp2;change bodyPost _ _ _ _ _ (fill6 w6 K3 K4 (.int .i64 0) (.string ⟨#[]⟩) (.string ⟨#[]⟩) (.slice none 0 0) (.int .i64 3) (.int .i64 z));generalize fill6 w6 K3 K4 (.int .i64 0) (.string ⟨#[]⟩) (.string ⟨#[]⟩) (.slice none 0 0) (.int .i64 3) (.int .i64 z)=WF at HF |-;obtain⟨j0,j1,j2,j3⟩:=HF.out.2.1.c4;obtain⟨j4,j5⟩:=HF.out.2.2.c2;exact bodyPost_ret (v:=.tuple #[.agg #[.int .i64 0,.string ⟨#[]⟩,.string ⟨#[]⟩,.slice none 0 0],.agg #[.int .i64 3,.int .i64 z]]) (by simp[results,Tryz.results22,go_sem,j0,j1,j2,j3,j4,j5]) rfl ⟨rfl,HF.out.1⟩
theorem onRows_of (p:Pp) (k:Int) (x:Ln) (ad:Option Addr) (len cap:Nat) (c:Int) (tx:Ln) (z:Int) (w:World) (hp:samePp p ⟨[],0⟩=false) (h:orB p k []=false) {K Y Z:Int} {X A:ByteArray} {AD:Option Addr} {LN CP:Nat} (HON:Hid (∀ w0,Calls Tryz.prog 40 #[pV p,tv k x [] ad len cap,rV c tx z] w0 fun e w'=>e=.returned (.tuple #[.agg #[.int .i64 K,.string X,.string A,.slice AD LN CP],.agg #[.int .i64 Y,.int .i64 Z]])/\Below w0.heap.size w0 w')) :
  Calls Tryz.prog 22 #[pV p,tv k x [] ad len cap,rV c tx z] w fun e w'=>e=.returned (.tuple #[.agg #[.int .i64 K,.string X,.string A,.slice AD LN CP],.agg #[.int .i64 Y,.int .i64 Z]])/\Below w.heap.size w w':=by
 obtain⟨pa,pt⟩:=p;have he:=eql_props (mk pa) ⟨#[]⟩ pt 0;rw[show ((mk pa).toList==(⟨#[]⟩:ByteArray).toList && pt==0)=false by rw[ByteArray.toList_eq,mk_data,ByteArray.toList_eq];exact hp]at he;have e1:((mk []).toList==[])=true:=by rw[ByteArray.toList_eq,mk_data];rfl
 have e2:(mk []).toList.isEmpty=true:=by rw[ByteArray.toList_eq,mk_data];rfl
 have hc:k=5\/k=6\/(k != 5)=true/\(k != 6)=true/\pt=0:=by
  by_cases h5:k=5
  ·exact .inl h5
  by_cases h6:k=6
  ·exact .inr (.inl h6)
  ·refine .inr (.inr ⟨by simpa using h5,by simpa using h6,?_⟩);unfold orB at h;simp only[Bool.or_eq_false_iff]at h;simpa [h5,h6]using h.2
 clear h hp;rcases hc with rfl | rfl | ⟨q5,q6,rfl⟩
 all_goals
  go_enter Tryz.func22,Tryz.ntmps22;go_wp2_with fail;refine(five_call HON.out _ _ _ _ _ _).mono ?_;rintro e w6 ⟨rfl,B6⟩;obtain⟨K4,hK4⟩:∃ K4,K4=w.heap.size+1+1+1+1:=⟨_,rfl⟩;obtain⟨K3,hK3⟩:∃ K3,K3=w.heap.size+1+1+1:=⟨_,rfl⟩;rw[<-hK4,<-hK3]at B6 |-;have hne:K3≠K4:=by omega
  have hne':K4≠K3:=by omega
  have hle3:w.heap.size<=K3:=by omega
  have hle4:w.heap.size<=K4:=by omega
  clear hK4 hK3;obtain⟨c0,c1,c2,c3,c4,c5,z0,z1,z2,z3,z4,z5⟩:=c6_of B6.out.2.1 B6.out.2.2;have HF:Hid (_/\_/\_):=fill6_is B6.out.2.1 B6.out.2.2 (by omega) B6.out.1 (by omega) (by omega) (.int .i64 K) (.string X) (.string A) (.slice AD LN CP) (.int .i64 Y) (.int .i64 Z);clear B6;go_wp2;change bodyPost _ _ _ _ _ (fill6 w6 K3 K4 (.int .i64 K) (.string X) (.string A) (.slice AD LN CP) (.int .i64 Y) (.int .i64 Z));generalize fill6 w6 K3 K4 (.int .i64 K) (.string X) (.string A) (.slice AD LN CP) (.int .i64 Y) (.int .i64 Z)=WF at HF |-;obtain⟨j0,j1,j2,j3⟩:=HF.out.2.1.c4;obtain⟨j4,j5⟩:=HF.out.2.2.c2;exact bodyPost_ret (v:=.tuple #[.agg #[.int .i64 K,.string X,.string A,.slice AD LN CP],.agg #[.int .i64 Y,.int .i64 Z]]) (by simp[results,Tryz.results22,go_sem,j0,j1,j2,j3,j4,j5]) rfl ⟨rfl,HF.out.1⟩
theorem onRows_yes (p:Pp) (k:Int) (x a:Ln) (ad:Option Addr) (len cap:Nat) (c:Int) (tx:Ln) (z:Int) (w:World) (hp:samePp p ⟨[],0⟩=false) (h:orB p k a=false) (ho:onB p k=false):Calls Tryz.prog 22 #[pV p,tv k x a ad len cap,rV c tx z] w fun e w'=>e=.returned (.tuple #[tv k x p.anc ad len cap,fV 0 0])/\Below w.heap.size w w':=by
 obtain rfl:a=[]:=by
  unfold orB at h;simp only[Bool.or_eq_false_iff]at h;simpa using h.1
 exact onRows_of p k x ad len cap c tx z w hp h (fun w0=>on_yes p k x [] ad len cap c tx z w0 ho)
theorem onRows_no (p:Pp) (k:Int) (x a:Ln) (ad:Option Addr) (len cap:Nat) (c:Int) (tx:Ln) (z:Int) (w:World) (hp:samePp p ⟨[],0⟩=false) (h:orB p k a=false) (ho:onB p k=true):Calls Tryz.prog 22 #[pV p,tv k x a ad len cap,rV c tx z] w fun e w'=>e=.returned (.tuple #[.agg zT,fV 12 z])/\Below w.heap.size w w':=by
 obtain rfl:a=[]:=by
  unfold orB at h;simp only[Bool.or_eq_false_iff]at h;simpa using h.1
 exact onRows_of p k x ad len cap c tx z w hp h (fun w0=>on_no p k x [] ad len cap c tx z w0 ho)
theorem four_new (w:World) (c0 c1 c2 c3:Array Value) (t0 t1 t2 t3:TypeId) :
  Below w.heap.size w ((((w.alloc (.cells c0 t0)).alloc (.cells c1 t1)).alloc (.cells c2 t2)).alloc (.cells c3 t3)) /\
  Bx ((((w.alloc (.cells c0 t0)).alloc (.cells c1 t1)).alloc (.cells c2 t2)).alloc (.cells c3 t3)) (w.heap.size+1+1) c2 t2 /\
  Bx ((((w.alloc (.cells c0 t0)).alloc (.cells c1 t1)).alloc (.cells c2 t2)).alloc (.cells c3 t3)) (w.heap.size+1+1+1) c3 t3:=by
 have s1:(w.alloc (.cells c0 t0)).heap.size=w.heap.size+1:=World.size_alloc _ _;have s2:((w.alloc (.cells c0 t0)).alloc (.cells c1 t1)).heap.size=w.heap.size+1+1:=by rw[World.size_alloc,s1]
 have s3:(((w.alloc (.cells c0 t0)).alloc (.cells c1 t1)).alloc (.cells c2 t2)).heap.size=w.heap.size+1+1+1:=by rw[World.size_alloc,s2]
 have b1:=below_alloc w (.cells c0 t0);have b2:=below_alloc (w.alloc (.cells c0 t0)) (.cells c1 t1);have b3:=below_alloc ((w.alloc (.cells c0 t0)).alloc (.cells c1 t1)) (.cells c2 t2);have b4:=below_alloc (((w.alloc (.cells c0 t0)).alloc (.cells c1 t1)).alloc (.cells c2 t2)) (.cells c3 t3);have n2:=(Bx.new ((w.alloc (.cells c0 t0)).alloc (.cells c1 t1)) c2 t2).later b4;have n3:=Bx.new (((w.alloc (.cells c0 t0)).alloc (.cells c1 t1)).alloc (.cells c2 t2)) c3 t3;rw[s2]at n2;rw[s3]at n3;have a2:=b1.trans (b2.mono b1.size);have a3:=a2.trans (b3.mono a2.size);exact⟨a3.trans (b4.mono a3.size),n2,n3⟩
def nuK (p:Pp):Int:=if p.tag=4 then 4 else 1
theorem four_call {f:FuncId} {args:Array Value} {E:Ending} {w:World} (h:∀ w0,Calls Tryz.prog f args w0 fun e w'=>e=E/\Below w0.heap.size w0 w') (c0 c1:Array Value) (t0 t1:TypeId) :
  Calls Tryz.prog f args ((((w.alloc (.cells c0 t0)).alloc (.cells c1 t1)).alloc (.cells zT 24)).alloc (.cells #[.int .i64 0,.int .i64 0] 33)) fun e w'=>e=E/\Hid (Below w.heap.size w w'/\Bx w' (w.heap.size+1+1) zT 24/\Bx w' (w.heap.size+1+1+1) #[.int .i64 0,.int .i64 0] 33) :=
 have n:=four_new w c0 c1 zT #[.int .i64 0,.int .i64 0] t0 t1 24 33
 (h _).mono fun e w' g=>⟨g.1,n.1.trans (g.2.mono n.1.size),n.2.1.later g.2,n.2.2.later g.2⟩
theorem onNothing_of (p:Pp) (c:Int) (tx:Ln) (z:Int) (w:World) {K Y Z:Int} {X A:ByteArray} {AD:Option Addr} {LN CP:Nat} (HON:Hid (∀ w0,Calls Tryz.prog 40 #[pV p,.agg #[.int .i64 (nuK p),.string ⟨#[]⟩,.string ⟨#[]⟩,.slice none 0 0],rV c tx z] w0 fun e w'=>e=.returned (.tuple #[.agg #[.int .i64 K,.string X,.string A,.slice AD LN CP],.agg #[.int .i64 Y,.int .i64 Z]])/\Below w0.heap.size w0 w')) :
  Calls Tryz.prog 20 #[pV p,rV c tx z] w fun e w'=>e=.returned (.tuple #[.agg #[.int .i64 K,.string X,.string A,.slice AD LN CP],.agg #[.int .i64 Y,.int .i64 Z]])/\Below w.heap.size w w':=by
 obtain⟨pa,pt⟩:=p
 have hc:pt=4\/(pt==4)=false:=by
  by_cases h4:pt=4
  ·exact .inl h4
  ·exact .inr (by simpa using h4)
 have hn:(pt==4)=false->nuK ⟨pa,pt⟩=1:=fun h=>if_neg (by simpa using h)
 rcases hc with rfl | q4
 all_goals
  first | rw[hn q4]at HON | rw[show nuK ⟨pa,4⟩=4 from rfl]at HON
  clear hn;go_enter Tryz.func20,Tryz.ntmps20;go_wp2_with fail;refine(four_call HON.out _ _ _ _).mono ?_;rintro e w6 ⟨rfl,B6⟩;obtain⟨K4,hK4⟩:∃ K4,K4=w.heap.size+1+1+1:=⟨_,rfl⟩;obtain⟨K3,hK3⟩:∃ K3,K3=w.heap.size+1+1:=⟨_,rfl⟩;rw[<-hK4,<-hK3]at B6 |-;have hne:K3≠K4:=by omega
  have hne':K4≠K3:=by omega
  have hle3:w.heap.size<=K3:=by omega
  have hle4:w.heap.size<=K4:=by omega
  clear hK4 hK3;obtain⟨c0,c1,c2,c3,c4,c5,z0,z1,z2,z3,z4,z5⟩:=c6_of B6.out.2.1 B6.out.2.2;have HF:Hid (_/\_/\_):=fill6_is B6.out.2.1 B6.out.2.2 (by omega) B6.out.1 (by omega) (by omega) (.int .i64 K) (.string X) (.string A) (.slice AD LN CP) (.int .i64 Y) (.int .i64 Z);clear B6;go_wp2;change bodyPost _ _ _ _ _ (fill6 w6 K3 K4 (.int .i64 K) (.string X) (.string A) (.slice AD LN CP) (.int .i64 Y) (.int .i64 Z));generalize fill6 w6 K3 K4 (.int .i64 K) (.string X) (.string A) (.slice AD LN CP) (.int .i64 Y) (.int .i64 Z)=WF at HF |-;obtain⟨j0,j1,j2,j3⟩:=HF.out.2.1.c4;obtain⟨j4,j5⟩:=HF.out.2.2.c2;exact bodyPost_ret (v:=.tuple #[.agg #[.int .i64 K,.string X,.string A,.slice AD LN CP],.agg #[.int .i64 Y,.int .i64 Z]]) (by simp[results,Tryz.results20,go_sem,j0,j1,j2,j3,j4,j5]) rfl ⟨rfl,HF.out.1⟩
theorem onNothing_yes (p:Pp) (c:Int) (tx:Ln) (z:Int) (w:World) (ho:onB p (nuK p)=false):Calls Tryz.prog 20 #[pV p,rV c tx z] w fun e w'=>e=.returned (.tuple #[tv (nuK p) [] p.anc none 0 0,fV 0 0])/\Below w.heap.size w w' :=
 onNothing_of p c tx z w (fun w0=>on_yes p (nuK p) [] [] none 0 0 c tx z w0 ho)
theorem onNothing_no (p:Pp) (c:Int) (tx:Ln) (z:Int) (w:World) (ho:onB p (nuK p)=true):Calls Tryz.prog 20 #[pV p,rV c tx z] w fun e w'=>e=.returned (.tuple #[.agg zT,fV 12 z])/\Below w.heap.size w w' :=
 onNothing_of p c tx z w (fun w0=>on_no p (nuK p) [] [] none 0 0 c tx z w0 ho)
end Tre
namespace Blk
open Utf
abbrev Ln:=List UInt8
abbrev Rw:=Int × List UInt8 × Int
/-! ### styles -/
def mark (f:Bool) (c:Int):Ln:=(if f then 62 else 124)::(if c=1 then [45]else if c=2 then [43]else [])
def headO (s:Ln):Option (Bool × Int) :=
 if s=[124]then some (false,0)else if s=[124,45]then some (false,1)else if s=[124,43]then some (false,2)
 else if s=[62]then some (true,0)else if s=[62,45]then some (true,1)else if s=[62,43]then some (true,2)else none
theorem head_mark (f:Bool) (c:Int) (h0:0<=c) (h2:c<=2):headO (mark f c)=some (f,c):=by
 rcases(show c=0\/c=1\/c=2 by omega)with rfl | rfl | rfl<;>cases f<;>decide
theorem mark_head (s:Ln) (f:Bool) (c:Int) (h:headO s=some (f,c)):mark f c=s:=by
 unfold headO at h;by_cases h1:s=[124]
 ·rw[if_pos h1]at h;cases h;rw[h1];rfl
 rw[if_neg h1]at h;by_cases h2:s=[124,45]
 ·rw[if_pos h2]at h;cases h;rw[h2];rfl
 rw[if_neg h2]at h;by_cases h3:s=[124,43]
 ·rw[if_pos h3]at h;cases h;rw[h3];rfl
 rw[if_neg h3]at h;by_cases h4:s=[62]
 ·rw[if_pos h4]at h;cases h;rw[h4];rfl
 rw[if_neg h4]at h;by_cases h5:s=[62,45]
 ·rw[if_pos h5]at h;cases h;rw[h5];rfl
 rw[if_neg h5]at h;by_cases h6:s=[62,43]
 ·rw[if_pos h6]at h;cases h;rw[h6];rfl
 rw[if_neg h6]at h;cases h
/-! ### folding -/
def flat (s:Ln):Bool:=match s with
 | []=>false
 | b::_=>b != 32
def sep (x:Ln) (r:List Ln):Ln:=match r.dropWhile (·.isEmpty)with
 | []=>[10]
 | z::_=>if (flat x && flat z)=true then (match r with | []::_=>[] | _=>[32])else [10]
def fld:List Ln->Ln
 | []=>[]
 | x::r=>match r with
  | []=>x
  | y::t=>x++sep x (y::t)++fld (y::t)
def joinW (c:UInt8):List Ln->Ln
 | []=>[]
 | x::r=>match r with
  | []=>x
  | y::t=>x++c::joinW c (y::t)
theorem fld_cons (x y:Ln) (t:List Ln):fld (x::y::t)=x++sep x (y::t)++fld (y::t):=rfl
theorem join_cons (c:UInt8) (x y:Ln) (t:List Ln):joinW c (x::y::t)=x++c::joinW c (y::t):=rfl
/-! ### lines of a text -/
/-! ### taking -/
def mx (c:Int):Nat:=c.toNat
def isIn (col:Int) (r:Rw):Bool:=r.2.1.isEmpty || decide (col<(mx r.1:Int))
def rws (l:List Rw) (col:Int):List Rw:=l.takeWhile (isIn col)
def trm (l:List Ln):List Ln:=(l.reverse.dropWhile (·.isEmpty)).reverse
def body (f:Bool) (k:List Ln):Ln:=if f then fld k else joinW 10 k
theorem trm_snoc_nil (l:List Ln):trm (l++[[]])=trm l:=by simp[trm]
theorem trm_last (l:List Ln) (x:Ln) (h:x≠[]):trm (l++[x])=l++[x]:=by
 unfold trm;rw[List.reverse_append,List.reverse_singleton,List.singleton_append,List.dropWhile_cons];have:x.isEmpty=false:=by cases x;exact absurd rfl h;rfl
 simp[this]
theorem trm_split (l:List Ln):∃ n,l=trm l++List.replicate n []:=by
 have key:∀ m:List Ln,∃ n,m.reverse=(m.dropWhile (·.isEmpty)).reverse++List.replicate n []:=by
  intro m
  induction m with
  | nil=>exact⟨0,rfl⟩
  | cons x t ih =>
   cases x with
   | nil =>
    obtain⟨n,hn⟩:=ih;refine⟨n+1,?_⟩;rw[List.reverse_cons,hn,List.append_assoc,List.replicate_succ'];rfl
   | cons a b=>exact⟨0,by simp⟩
 have:=key l.reverse;rw[List.reverse_reverse]at this;exact this
end Blk
namespace Blk
/-! ### folding -/
def btw (e:Nat) (f:Bool):Ln:=if f=true then (if e=1 then [32]else List.replicate (e-1) 10)else List.replicate e 10
def foC:Bool->Nat->Bool->List Ln->Ln
 | _,e,_,[]=>List.replicate e 10
 | g,e,f,x::r=>if x=[]then foC true (if g=true then e+1 else e) f r else btw (if g=true then e+1 else e) (f && flat x)++x++foC true 0 (flat x) r
theorem flat_nil:flat []=false:=rfl
theorem sep_nil (r:List Ln):sep [] r=[10]:=by
 unfold sep;split
 ·rfl
 ·rw[flat_nil];simp
theorem fld_nil (r:List Ln) (h:r≠[]):fld ([]::r)=10::fld r:=by
 cases r with
 | nil=>exact absurd rfl h
 | cons y t=>rw[fld_cons,sep_nil];rfl
theorem fld_nils (e:Nat) (r:List Ln) (h:r≠[]):fld (List.replicate e []++r)=List.replicate e 10++fld r:=by
 induction e with
 | zero=>rfl
 | succ e ih=>rw[List.replicate_succ,List.replicate_succ,List.cons_append,List.cons_append,fld_nil _ (by simp[h]),ih]
theorem fld_rep (e:Nat):fld (List.replicate (e+1) [])=List.replicate e 10:=by
 induction e with
 | zero=>rfl
 | succ e ih=>rw[List.replicate_succ,fld_nil _ (by simp),ih,List.replicate_succ]
theorem drop_emp (e:Nat) (x:Ln) (r:List Ln) (hx:x≠[]):(List.replicate e []++x::r).dropWhile (·.isEmpty)=x::r:=by
 induction e with
 | zero =>
  cases x with
  | nil=>exact absurd rfl hx
  | cons b t=>rfl
 | succ e ih=>rw[List.replicate_succ,List.cons_append,List.dropWhile_cons];simpa using ih
theorem drop_emps (e:Nat):(List.replicate e ([]:Ln)).dropWhile (·.isEmpty)=[]:=by
 induction e with
 | zero=>rfl
 | succ e ih=>rw[List.replicate_succ,List.dropWhile_cons];simp
theorem fld_mid (y x:Ln) (e:Nat) (r:List Ln) (hx:x≠[]):fld (y::(List.replicate e []++x::r))=y++btw (e+1) (flat y && flat x)++fld (x::r):=by
 cases e with
 | zero =>
  rw[List.replicate_zero,List.nil_append,fld_cons];congr 2;unfold sep;rw[show (x::r).dropWhile (·.isEmpty)=x::r from drop_emp 0 x r hx];simp only;cases hq:(flat y && flat x)
  ·simp[btw]
  ·cases x with
   | nil=>exact absurd rfl hx
   | cons b t=>simp[btw]
 | succ e =>
  have e1:List.replicate (e+1) []++x::r=([]:Ln)::(List.replicate e []++x::r):=rfl;have h1:fld ([]::(List.replicate e []++x::r))=List.replicate (e+1) 10++fld (x::r):=by rw[<-e1,fld_nils _ _ (by simp)]
  have h2:sep y ([]::(List.replicate e []++x::r))=if (flat y && flat x)=true then []else [10]:=by
   unfold sep;rw[<-e1,drop_emp (e+1) x r hx];rfl
  rw[e1,fld_cons,h1,h2];cases hq:(flat y && flat x)
  ·simp[btw,List.replicate_succ]
  ·simp[btw]
theorem fld_end (y:Ln) (e:Nat):fld (y::List.replicate e [])=y++List.replicate e 10:=by
 cases e with
 | zero=>simp[fld]
 | succ e =>
  have h1:=fld_rep e;rw[List.replicate_succ]at h1 |-;rw[fld_cons,h1]
  have h2:sep y ([]::List.replicate e [])=[10]:=by
   unfold sep;rw[<-List.replicate_succ,drop_emps]
  rw[h2,List.append_assoc];rfl
theorem rep_cons (e:Nat) (r:List Ln):List.replicate e ([]:Ln)++[]::r=List.replicate (e+1) []++r:=by
 rw[List.replicate_succ',List.append_assoc];rfl
theorem foC_mid:∀ (r:List Ln) (y:Ln) (e:Nat),y≠[]->fld (y::(List.replicate e []++r))=y++foC true e (flat y) r
 | [],y,e,_=>by rw[List.append_nil,fld_end];rfl
 | x::r,y,e,hy=>by
  by_cases hx:x=[]
  ·subst hx;rw[rep_cons,foC_mid r y (e+1) hy,foC,if_pos rfl,if_pos rfl]
  ·have h0:=foC_mid r x 0 hx;rw[List.replicate_zero,List.nil_append]at h0;rw[fld_mid y x e r hx,h0,foC,if_neg hx,if_pos rfl];simp only[List.append_assoc]
theorem foC_head:∀ (r:List Ln) (e:Nat),fld (List.replicate (e+1) []++r)=foC true e false r
 | [],e=>by rw[List.append_nil,fld_rep];rfl
 | x::r,e=>by
  by_cases hx:x=[]
  ·subst hx;rw[rep_cons,foC_head r (e+1),foC,if_pos rfl,if_pos rfl]
  ·have h0:=foC_mid r x 0 hx;rw[List.replicate_zero,List.nil_append]at h0;rw[fld_nils _ _ (by simp),h0,foC,if_neg hx,if_pos rfl,Bool.false_and];simp[btw]
theorem foC_all (l:List Ln):foC false 0 false l=fld l:=by
 cases l with
 | nil=>rfl
 | cons x r =>
  by_cases hx:x=[]
  ·subst hx;have:=foC_head r 0;rw[foC,if_pos rfl,if_neg (by simp),<-this];rfl
  ·have h0:=foC_mid r x 0 hx;rw[List.replicate_zero,List.nil_append]at h0;rw[h0,foC,if_neg hx,if_neg (by simp),Bool.false_and];rfl
/-! ### lines of a block -/
def addL (acc:List Ln):List Ln ⊕ Int->List Ln ⊕ Int
 | .inl m=>.inl (acc++m)
 | .inr a=>.inr a
theorem addL_nil (x:List Ln ⊕ Int):addL [] x=x:=by cases x<;>rfl
theorem addL_addL (a b:List Ln) (x:List Ln ⊕ Int):addL a (addL b x)=addL (a++b) x:=by cases x<;>simp[addL]
def lo:Option Nat->List Rw->List Ln ⊕ Int
 | _,[]=>.inl []
 | b,r::t=>if r.2.1=[]then addL [[]] (lo b t)
  else if mx r.1<b.getD (mx r.1)\/b.getD (mx r.1)+65536<mx r.1 then .inr r.2.2
  else addL [List.replicate (mx r.1-b.getD (mx r.1)) 32++r.2.1] (lo (some (b.getD (mx r.1))) t)
theorem rws_nil (col:Int):rws [] col=[]:=rfl
theorem rws_cons (r:Rw) (t:List Rw) (col:Int):rws (r::t) col=if r.2.1=[]\/col<(mx r.1:Int)then r::rws t col else []:=by
 unfold rws;rw[List.takeWhile_cons]
 have e:isIn col r=decide (r.2.1=[]\/col<(mx r.1:Int)):=by
  unfold isIn;cases h:r.2.1<;>simp
 rw[e];simp
theorem lo_len:∀ (b:Option Nat) (l:List Rw) (m:List Ln),lo b l=.inl m->m.length=l.length
 | b,[],m,h=>by cases h;rfl
 | b,r::t,m,h=>by
  rw[lo]at h;split at h
  ·cases hq:lo b t with
   | inl k=>rw[hq]at h;cases h;have:=lo_len b t k hq;simp[this]
   | inr a=>rw[hq]at h;cases h
  ·split at h
   ·cases h
   ·cases hq:lo (some (b.getD (mx r.1))) t with
    | inl k=>rw[hq]at h;cases h;have:=lo_len _ t k hq;simp[this]
    | inr a=>rw[hq]at h;cases h
/-! ### a block's text -/
def ed (c:Int) (n m:Nat):Nat:=(if 0<n/\c≠1 then 1 else 0)+(if c=2 then m else 0)
def txt (f:Bool) (c:Int) (ls:List Ln):Ln:=body f (trm ls)++List.replicate (ed c (trm ls).length (ls.length-(trm ls).length)) 10
theorem trm_le (l:List Ln):(trm l).length<=l.length:=by
 obtain⟨n,hn⟩:=trm_split l
 conv=>rhs;rw[hn]
 rw[List.length_append];omega
theorem trm_take (l:List Ln):l.take (trm l).length=trm l:=by
 obtain⟨n,hn⟩:=trm_split l;obtain⟨k,hk⟩:∃ k,k=trm l:=⟨_,rfl⟩;rw[<-hk]at hn |-;rw[hn,List.take_left'];rfl
end Blk
end Go.Proofs.YtidhpmcmbooaoaaGreatDoor
