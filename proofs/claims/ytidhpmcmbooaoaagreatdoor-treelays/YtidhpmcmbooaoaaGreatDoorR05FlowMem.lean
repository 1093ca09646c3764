/- . -/
import Derived.Test.YtidhpmcmbooaoaaGreatDoorRows
import Derived.Test.YtidhpmcmbooaoaaGreatDoorR01RowsPlain
import Derived.WalkKit
import Derived.WalkSpells
import Derived.WalkLawsBesides
import Derived.BigQuiet
import Derived.Deep.QuietTactic
import Derived.Test.YtidhpmcmbooaoaaGreatDoorR02FlowModel2
import Derived.Deep.RegionWith
set_option linter.unusedSimpArgs false
set_option linter.unusedVariables false
set_option maxRecDepth 100000
namespace Go.Proofs.YtidhpmcmbooaoaaGreatDoor
namespace Flw
open Utf Rws Pln
open Go.RowKit
def TrV (w:World):Nat->Value->Tr->Prop
 | 0,_,_=>False
 | d+1,v,t=>∃ ad len cap,v=.agg #[.int .i64 t.kind,.string (mk t.text),.string (mk t.anc),.slice ad len cap]/\len=t.kids.length/\len<=cap/\cap<=maxLen/\(-9223372036854775808<=t.kind/\t.kind<=9223372036854775807/\t.text.length<=9223372036854775807/\t.anc.length<=9223372036854775807) /\
   (0<len->∃ b off,ad=some ⟨b,off,none⟩/\b<w.heap.size/\∀ i,i<len->∃ c0 c1 c2 c3,w.cell? ⟨b,off+i*4,none⟩=some c0/\w.cell? ⟨b,off+i*4+1,none⟩=some c1 /\
    w.cell? ⟨b,off+i*4+2,none⟩=some c2/\w.cell? ⟨b,off+i*4+3,none⟩=some c3/\TrV w d (.agg #[c0,c1,c2,c3]) (t.kids.getD i tr0))
theorem TrV.later {w w':World} {B:Nat} (hb:Below B w w') (hB:w.heap.size<=B):∀ {d:Nat} {v:Value} {t:Tr},TrV w d v t->TrV w' d v t
 | 0,v,t,h=>h
 | d+1,v,t,h=>by
  obtain⟨ad,len,cap,rfl,hl,hc,hm,hz,hk⟩:=h;refine⟨ad,len,cap,rfl,hl,hc,hm,hz,fun hp=> ?_⟩;obtain⟨b,off,ha,hlt,hcell⟩:=hk hp;have hbB:b<B:=Nat.lt_of_lt_of_le hlt hB;refine⟨b,off,ha,Nat.lt_of_lt_of_le hlt hb.size,fun i hi=> ?_⟩;obtain⟨c0,c1,c2,c3,h0,h1,h2,h3,ht⟩:=hcell i hi
  exact⟨c0,c1,c2,c3,(hb.cell (p:=⟨b,off+i*4,none⟩) hbB).trans h0,(hb.cell (p:=⟨b,off+i*4+1,none⟩) hbB).trans h1,(hb.cell (p:=⟨b,off+i*4+2,none⟩) hbB).trans h2,
   (hb.cell (p:=⟨b,off+i*4+3,none⟩) hbB).trans h3,TrV.later hb hB ht⟩
theorem TrV.more {w:World}:∀ {d d':Nat} {v:Value} {t:Tr},TrV w d v t->d<=d'->TrV w d' v t
 | 0,d',v,t,h,hd=>h.elim
 | d+1,d',v,t,h,hd=>by
  obtain⟨e,rfl⟩:∃ e,d'=e+1:=⟨d'-1,by omega⟩;obtain⟨ad,len,cap,rfl,hl,hc,hm,hz,hk⟩:=h;refine⟨ad,len,cap,rfl,hl,hc,hm,hz,fun hp=> ?_⟩;obtain⟨b,off,ha,hlt,hcell⟩:=hk hp;refine⟨b,off,ha,hlt,fun i hi=> ?_⟩;obtain⟨c0,c1,c2,c3,h0,h1,h2,h3,ht⟩:=hcell i hi;exact⟨c0,c1,c2,c3,h0,h1,h2,h3,TrV.more ht (by omega)⟩
theorem beq_mk (a b:Ln):((mk a).toList==(mk b).toList)=(a==b):=by
 rw[ByteArray.toList_eq,ByteArray.toList_eq,mk_data,mk_data]
def KAt (w:World) (d:Nat) (ad:Option Addr) (len:Nat) (ks:List Tr):Prop :=
 len=ks.length/\(0<len->∃ b off,ad=some ⟨b,off,none⟩/\b<w.heap.size/\∀ i,i<len->∃ c0 c1 c2 c3,w.cell? ⟨b,off+i*4,none⟩=some c0/\w.cell? ⟨b,off+i*4+1,none⟩=some c1 /\
    w.cell? ⟨b,off+i*4+2,none⟩=some c2/\w.cell? ⟨b,off+i*4+3,none⟩=some c3/\TrV w d (.agg #[c0,c1,c2,c3]) (ks.getD i tr0))
theorem TrV.cells {w:World} {d:Nat} {c0 c1 c2 c3:Value} {t:Tr} (h:TrV w d (.agg #[c0,c1,c2,c3]) t):∃ (k:Int) (s a:ByteArray) (ad:Option Addr) (len cap:Nat),c0=.int .i64 k/\c1=.string s/\c2=.string a/\c3=.slice ad len cap:=by
 cases d with
 | zero=>exact h.elim
 | succ d =>
  obtain⟨ad,len,cap,e,_⟩:=h;simp only[Value.agg.injEq,Array.mk.injEq,List.cons.injEq,and_true]at e;exact⟨_,_,_,ad,len,cap,e.1,e.2.1,e.2.2.1,e.2.2.2⟩
end Flw
namespace Rws
open Utf
open Go.RowKit
def strLn:Value->Nat
 | .string t=>t.size
 | _=>0
theorem trL_cons (b:UInt8) (r:List UInt8):trL (b::r)=if is32 b=true then trL r else b::r:=by unfold trL;rw[List.dropWhile_cons]
theorem b32 (b:UInt8):((b.toNat:Int)==32)=is32 b:=by
 unfold is32;rw[Bool.eq_iff_iff];simp only[beq_iff_eq];constructor
 ·intro h;apply UInt8.toNat_inj.1;have:b.toNat=32:=by omega
  rw[this];rfl
 ·rintro rfl;rfl
theorem trimLeftByte_any (l:List UInt8) (w:World) (hs:l.length<=140737488355328):Calls Tryz.prog 94 #[.string (mk l),.int .u8 32] w fun e w'=>e=.returned (.string (mk (trL l)))/\w=w':=by
 go_enter Tryz.func94,Tryz.ntmps94;go_wp2
 go_loop [0] (fun u=>∃ m:List UInt8,u=.string (mk m)/\m.length<=l.length/\trL l=trL m) (fun u=>strLn u)
 case atStart=>exact⟨l,rfl,Nat.le_refl _,rfl⟩
 case round =>
  obtain⟨m,rfl,hm,ht⟩:=hrel;have HT:Hid (trL l=trL m):=ht;clear ht
  cases m with
  | nil =>
   have hz:(mk []).size=0:=rfl;go_wp2;go_ret;rw[HT.out];exact⟨rfl,rfl⟩
  | cons b r =>
   have hsz:(mk (b::r)).size=r.length+1:=by rw[mk_size];simp
   have hsl:r.length+1<=140737488355328:=by simp at hm;omega
   have hg:∀ h,(mk (b::r))[0]'h=b:=fun h=>by rw[mk_get];rfl
   have hb32:=b32 b;cases hb:is32 b
   ·have HN:Hid (trL (b::r)=b::r):=by rw[trL_cons,hb];rfl
    rw[hb]at hb32;go_wp2;go_ret;rw[HT.out,HN.out];exact⟨rfl,rfl⟩
   ·have HN:Hid (trL (b::r)=trL r):=by rw[trL_cons,hb];rfl
    rw[hb]at hb32;go_wp2;go_round
    case rel=>exact⟨r,by rw[mk_ext];simp[mk_size],by simp at hm;omega,HT.out.trans HN.out⟩
    case measure=>simp[strLn,mk_ext,mk_size]
set_option maxRecDepth 100000 in
theorem trimLeft_any (l:List UInt8) (w:World) (hs:l.length<=140737488355328):Calls Tryz.prog 70 #[.string (mk l),.string ⟨#[32]⟩] w fun e w'=>e=.returned (.string (mk (trL l)))/\w=w':=by
 by_cases h0:l=[]
 ·subst h0;have hz:(mk [])=ByteArray.empty:=rfl;go_enter Tryz.func70,Tryz.ntmps70;go_wp2;go_ret;exact⟨rfl,rfl⟩
 ·have hne:((mk l).toList==[])=false:=by rw[ByteArray.toList_eq,mk_data,beq_eq_false_iff_ne];exact h0
  go_enter Tryz.func70,Tryz.ntmps70;go_wp2_with (first | (go_at_call 94;refine(trimLeftByte_any _ _ hs).mono ?_;rintro e w' ⟨rfl,rfl⟩));go_ret;exact⟨rfl,rfl⟩
end Rws
namespace Flw
open Utf Rws Pln
open Go.RowKit
def Rd (w:World) (b:Nat) (s:Ln) (p dp:Nat):Prop:=w.heap[b]?=some (.cells #[.string (mk s),.int .i64 (p:Int),.int .i64 (dp:Int)] 161 (0,0))
def Fr (b:Nat) (w w':World):Prop:=Below b w w'/\∀ j,b<j->j<w.heap.size->w'.heap[j]?=w.heap[j]?
variable {b p dp:Nat} {s:Ln} {w w1 w2:World}
theorem Fr.refl:Fr b w w:=⟨Below.refl _ _,fun _ _ _=>rfl⟩
theorem Fr.trans (h:Fr b w w1) (k:Fr b w1 w2):Fr b w w2:=⟨h.1.trans k.1,fun j h1 h2=>(k.2 j h1 (Nat.lt_of_lt_of_le h2 h.1.size)).trans (h.2 j h1 h2)⟩
theorem Fr.of (h:Below w.heap.size w w1) (hb:b<w.heap.size):Fr b w w1:=⟨h.mono (Nat.le_of_lt hb),fun j _ h2=>h.block j h2⟩
theorem Fr.set (h:Fr b w w1) (i:Nat) (x:Value):Fr b w (w1.setCell ⟨b,i,none⟩ x) :=
 ⟨h.1.setCell (p:=⟨b,i,none⟩) (Nat.le_refl _) _,fun j h1 h2=>(Below.heap_setCell _ _ _ _ (fun e=>by simp only at e;omega)).trans (h.2 j h1 h2)⟩
theorem Fr.drew (h:Fr b w w1):Fr b w w1.drew:=⟨h.1.drew,h.2⟩
theorem Fr.size (h:Fr b w w1):w.heap.size<=w1.heap.size:=h.1.size
theorem Rd.lt (h:Rd w b s p dp):b<w.heap.size:=(Array.getElem?_eq_some_iff.1 h).1
theorem Rd.c0 (h:Rd w b s p dp):w.cell? ⟨b,0,none⟩=some (.string (mk s)):=by rw[Lib.cell_of_heap h];rfl
theorem Rd.c1 (h:Rd w b s p dp):w.cell? ⟨b,1,none⟩=some (.int .i64 (p:Int)):=by rw[Lib.cell_of_heap h];rfl
theorem Rd.c2 (h:Rd w b s p dp):w.cell? ⟨b,2,none⟩=some (.int .i64 (dp:Int)):=by rw[Lib.cell_of_heap h];rfl
theorem Rd.fz (h:Rd w b s p dp) (i:Nat):w.frozen? ⟨b,i,none⟩=false:=Lib.frozen_of_heap h i
theorem Rd.later (h:Rd w b s p dp) (hb:Below w.heap.size w w1):Rd w1 b s p dp:=(hb.block _ h.lt).trans h
theorem Rd.set1 (h:Rd w b s p dp) (q:Nat):Rd (w.setCell ⟨b,1,none⟩ (.int .i64 (q:Int))) b s q dp:=by
 unfold Rd at *;rw[setCell_eq_setRow w b 1 _ _ (0,0) _ h,setRow_heap w b _ _ _ _ h];rfl
theorem Rd.set2 (h:Rd w b s p dp) (q:Nat):Rd (w.setCell ⟨b,2,none⟩ (.int .i64 (q:Int))) b s p q:=by
 unfold Rd at *;rw[setCell_eq_setRow w b 2 _ _ (0,0) _ h,setRow_heap w b _ _ _ _ h];rfl
theorem Rd.other (h:Rd w b s p dp) {k:Nat} (hk:k≠b) (i:Nat) (x:Value):Rd (w.setCell ⟨k,i,none⟩ x) b s p dp:=(Below.heap_setCell _ _ _ _ (fun e=>hk e.symm)).trans h
theorem Fr.new (h:Fr b w w1) {k:Nat} (hk:w.heap.size<=k) (hb:b<k) (i:Nat) (x:Value):Fr b w (w1.setCell ⟨k,i,none⟩ x) :=
 ⟨h.1.setCell (p:=⟨k,i,none⟩) (Nat.le_of_lt hb) _,fun j h1 h2=>(Below.heap_setCell _ _ _ _ (fun e=>by simp only at e;omega)).trans (h.2 j h1 h2)⟩
theorem Rd.box (h:Rd w b s p dp) {k:Nat} (hk:k≠b) (x y:Value):Rd ((w.setCell ⟨k,0,none⟩ x).setCell ⟨k,1,none⟩ y) b s p dp:=(h.other hk 0 x).other hk 1 y
theorem Fr.box (h:Fr b w w1) {k:Nat} (hk:w.heap.size<=k) (hb:b<k) (x y:Value):Fr b w ((w1.setCell ⟨k,0,none⟩ x).setCell ⟨k,1,none⟩ y):=(h.new hk hb 0 x).new hk hb 1 y
theorem Rd.fr (h:Rd w b s p dp) (k:Fr b w w1) {c:Nat} {o:Obj} (hc:w.heap[c]?=some o) (hb:b<c):w1.heap[c]?=some o:=(k.2 c hb (Array.getElem?_eq_some_iff.1 hc).1).trans hc
def nx (s:Ln) (p:Nat):Nat:=s.length-(gaps (s.drop p)).length
theorem nx_le (s:Ln) (p:Nat):nx s p<=s.length:=by unfold nx;omega
theorem gaps_suf (l:Ln):gaps l=l.drop (l.length-(gaps l).length):=by
 induction l with
 | nil=>rfl
 | cons c r ih =>
  by_cases h:c=32
  ·subst h;have:=gaps_len r;rw[gaps_32,List.length_cons,show r.length+1-(gaps r).length=(r.length-(gaps r).length)+1 by omega,List.drop_succ_cons];exact ih
  ·rw[gaps_cons r h];simp
theorem drop_nx (s:Ln) {p:Nat} (hp:p<=s.length):s.drop (nx s p)=gaps (s.drop p):=by
 have h1:=gaps_len (s.drop p);have h2:=gaps_suf (s.drop p);rw[List.length_drop]at h1 h2;rw[h2,List.drop_drop];unfold nx;congr 1;omega
theorem nx_ge (s:Ln) {p:Nat} (hp:p<=s.length):p<=nx s p:=by
 have h1:=gaps_len (s.drop p);rw[List.length_drop]at h1;unfold nx;omega
theorem gaps_nx (s:Ln) {p:Nat} (hp:p<=s.length):(gaps (s.drop p)).length=s.length-nx s p:=by
 have h1:=gaps_len (s.drop p);rw[List.length_drop]at h1;unfold nx;omega
theorem next_any (h:Rd w b s p dp) (hp:p<=s.length) (hs:s.length<=65536) :
  Calls Tryz.prog 164 #[.pointer (some ⟨b,0,none⟩)] w fun e w'=>e=.returned (.int .i64 (nx s p:Nat))/\∃ n,w'=w.drewN n:=by
 have c0:=h.c0;have c1:=h.c1;have hsz:=mk_size s;have hex:(mk s).extract p s.length=mk (s.drop p):=by rw[mk_ext,List.take_of_length_le (by rw[List.length_drop];omega)]
 have hl:(s.drop p).length<=140737488355328:=by rw[List.length_drop];omega
 have hg:(mk (trL (s.drop p))).size=s.length-nx s p:=by rw[mk_size];exact gaps_nx s hp
 have hn:=nx_le s p;have HT:Hid (∀ w,Calls Tryz.prog 70 #[.string (mk (s.drop p)),.string ⟨#[32]⟩] w fun e w'=>e=.returned (.string (mk (trL (s.drop p))))/\w=w'):=fun w=>trimLeft_any _ w hl
 generalize nx s p=n at hg hn |-;generalize mk (trL (s.drop p))=T at hg HT;generalize mk (s.drop p)=X at hex HT;generalize s.length=N at *;clear h hl;go_enter Tryz.func164,Tryz.ntmps164;go_wp2;go_quiet ((go_at_call 70;exact(HT.out _).mono (fun _ _ ⟨he,hw⟩=>⟨he,_,hw.symm⟩)));go_wp2;go_ret;exact⟨by go_num,nq,rfl⟩
/-! ### a sign ahead -/
theorem pre_len {l g:Ln} (h:l.length<g.length):(l.take g.length==g)=false:=by
 rw[beq_eq_false_iff_ne];intro e;have:=congrArg List.length e;rw[List.length_take]at this;omega
theorem hasPrefixL_g (l g:Ln) (w:World) (hl:l.length<=65536) (hg:g.length<=2):Calls Tryz.prog 74 #[.string (mk l),.string (mk g)] w fun e w'=>e=.returned (.bool (l.take g.length==g))/\w=w':=by
 have hsz:=mk_size l;have hgz:=mk_size g;by_cases h:g.length<=l.length
 ·have hx:(mk l).extract 0 g.length=mk (l.take g.length):=by rw[mk_ext];simp
  have hb:=beq_mk (l.take g.length) g;generalize (l.take g.length==g)=V at hb |-;generalize mk (l.take g.length)=T at hx hb;generalize l.length=N at *;generalize g.length=M at *;go_enter Tryz.func74,Tryz.ntmps74;go_wp2;go_ret;exact⟨by first | rfl | rw[<-hb] | simp[hb],rfl⟩
 ·have hb:=pre_len (l:=l) (g:=g) (by omega);rw[hb];clear hb;generalize l.length=N at *;generalize g.length=M at *;go_enter Tryz.func74,Tryz.ntmps74;go_wp2;go_ret;exact⟨rfl,rfl⟩
theorem hasPrefix_g (l g:Ln) (w:World) (hl:l.length<=65536) (hg:g.length<=2):Calls Tryz.prog 52 #[.string (mk l),.string (mk g)] w fun e w'=>e=.returned (.bool (l.take g.length==g))/\w=w':=by
 go_enter Tryz.func52,Tryz.ntmps52;go_wp2_with (first | (go_at_call 74;refine(hasPrefixL_g _ _ _ hl hg).mono ?_;rintro e w' ⟨rfl,rfl⟩));go_ret;exact⟨rfl,rfl⟩
def see (s:Ln) (p:Nat) (g:Ln):Bool:=(gaps (s.drop p)).take g.length==g
theorem Rd.drew (h:Rd w b s p dp) (n:Nat):Rd (w.drewN n) b s p dp:=h
theorem sees_any (g:Ln) (h:Rd w b s p dp) (hp:p<=s.length) (hs:s.length<=65536) (hg:g.length<=2) :
  Calls Tryz.prog 163 #[.pointer (some ⟨b,0,none⟩),.string (mk g)] w fun e w'=>e=.returned (.bool (see s p g))/\∃ n,w'=w.drewN n:=by
 have hsz:=mk_size s;have hn:=nx_le s p;have hex:(mk s).extract (nx s p) s.length=mk (gaps (s.drop p)):=by rw[mk_ext,drop_nx s hp,List.take_of_length_le (by rw[gaps_nx s hp];omega)]
 have hl:(gaps (s.drop p)).length<=65536:=by rw[gaps_nx s hp];omega
 have HN:Hid (∀ k,Calls Tryz.prog 164 #[.pointer (some ⟨b,0,none⟩)] (w.drewN k) fun e w'=>e=.returned (.int .i64 (nx s p:Nat))/\∃ n,w'=(w.drewN k).drewN n):=fun k=>next_any (h.drew k) hp hs
 have HP:Hid (∀ w,Calls Tryz.prog 52 #[.string (mk (gaps (s.drop p))),.string (mk g)] w fun e w'=>e=.returned (.bool (see s p g))/\w=w'):=fun w=>hasPrefix_g _ _ w hl hg
 have c0:=h.c0;generalize see s p g=V at HP |-;generalize mk (gaps (s.drop p))=X at hex HP;generalize nx s p=n at hex HN hn;generalize s.length=N at *;clear h hl;go_enter Tryz.func163,Tryz.ntmps163;go_wp2_with fail;go_quiet (first | (go_at_call 52;exact(HP.out _).mono (fun _ _ ⟨he,hw⟩=>⟨he,_,hw.symm⟩)) | (go_at_call 164;exact Calls.quiet_of (HN.out _)));go_wp2;go_ret;exact⟨rfl,nq,rfl⟩
theorem takes_no (g:Ln) (h:Rd w b s p dp) (hp:p<=s.length) (hs:s.length<=65536) (hg:g.length<=2) (hc:see s p g=false) :
  Calls Tryz.prog 135 #[.pointer (some ⟨b,0,none⟩),.string (mk g)] w fun e w'=>e=.returned (.bool false)/\∃ n,w'=w.drewN n:=by
 have HS:Hid (∀ k,Calls Tryz.prog 163 #[.pointer (some ⟨b,0,none⟩),.string (mk g)] (w.drewN k) fun e w'=>e=.returned (.bool false)/\∃ n,w'=(w.drewN k).drewN n):=fun k=>hc▸sees_any g (h.drew k) hp hs hg
 clear h hc;go_enter Tryz.func135,Tryz.ntmps135;go_wp2_with (first | (go_at_call 163;refine(HS.out 0).mono ?_;rintro e w' ⟨rfl,n,rfl⟩));go_ret;exact⟨rfl,n,rfl⟩
theorem takes_yes (g:Ln) (h:Rd w b s p dp) (hp:p<=s.length) (hs:s.length<=65536) (hg:g.length<=2) (hc:see s p g=true) :
  Calls Tryz.prog 135 #[.pointer (some ⟨b,0,none⟩),.string (mk g)] w fun e w'=>e=.returned (.bool true)/\Rd w' b s (nx s p+g.length) dp/\Fr b w w':=by
 have HS:Hid (∀ k,Calls Tryz.prog 163 #[.pointer (some ⟨b,0,none⟩),.string (mk g)] (w.drewN k) fun e w'=>e=.returned (.bool true)/\∃ n,w'=(w.drewN k).drewN n):=fun k=>hc▸sees_any g (h.drew k) hp hs hg
 have HN:Hid (∀ k,Calls Tryz.prog 164 #[.pointer (some ⟨b,0,none⟩)] (w.drewN k) fun e w'=>e=.returned (.int .i64 (nx s p:Nat))/\∃ n,w'=(w.drewN k).drewN n):=fun k=>next_any (h.drew k) hp hs
 have hn:=nx_le s p;have hgz:=mk_size g;have HR:Hid (∀ k (q:Nat),Rd ((w.drewN k).setCell ⟨b,1,none⟩ (.int .i64 (q:Int))) b s q dp/\Fr b w ((w.drewN k).setCell ⟨b,1,none⟩ (.int .i64 (q:Int)))):=fun k q=>⟨(h.drew k).set1 q,(Fr.of (below_drewN (Below.refl _ _) k) h.lt).set 1 _⟩
 have z1:=h.fz 1;have c1:=h.c1;clear h hc;go_enter Tryz.func135,Tryz.ntmps135;go_wp2_with (first | (go_at_call 163;refine(HS.out 0).mono ?_;rintro e w' ⟨rfl,n,rfl⟩) | (go_at_call 164;refine(HN.out _).mono ?_;rintro e w' ⟨rfl,n2,rfl⟩));go_ret;have:=HR.out (n+n2) (nx s p+g.length);rw[Int.natCast_add]at this;exact⟨rfl,this⟩
def fv (N:Nat) (e:Fa):Value:=.agg #[.int .i64 (e.1:Int),.int .i64 ((N-e.2:Nat):Int)]
theorem fv_end (N:Nat):fv N (4,0)=.agg #[.int .i64 4,.int .i64 (N:Int)]:=rfl
theorem fv_at {N q:Nat} (k:Nat) (hq:q<=N):fv N (k,N-q)=.agg #[.int .i64 (k:Int),.int .i64 (q:Int)]:=by
 unfold fv;show Value.agg #[_,.int .i64 ((N-(N-q):Nat):Int)]=_;rw[show N-(N-q)=q by omega]
theorem stands_end (s:Ln):stands (s.drop s.length)=(4,0):=by rw[List.drop_length];rfl
theorem stands_at (s:Ln) {q:Nat} (hq:q<s.length):stands (s.drop q)=(3,s.length-q):=by
 unfold stands;rw[if_neg (fun e=>by have:=congrArg List.length e;rw[List.length_drop]at this;simp at this;omega),List.length_drop]
theorem below_alloc (w:World) (o:Obj):Below w.heap.size w (w.alloc o):=(Below.refl _ _).alloc (Nat.le_refl _) _
theorem wrongAt_any (q:Nat) (h:Rd w b s p dp) (hq:q<=s.length) (hs:s.length<=65536) :
  Calls Tryz.prog 165 #[.pointer (some ⟨b,0,none⟩),.int .i64 (q:Int)] w fun e w'=>e=.returned (fv s.length (stands (s.drop q)))/\Below w.heap.size w w':=by
 have hsz:=mk_size s;have c0:=(h.later (below_alloc w (.cells #[.int .i64 0,.int .i64 0] 33))).c0;clear h;by_cases e:q=s.length
 ·subst e;have HV:Hid (fv s.length (stands (s.drop s.length))=.agg #[.int .i64 4,.int .i64 (s.length:Int)]):=by rw[stands_end,fv_end];rfl
  go_enter Tryz.func165,Tryz.ntmps165;go_wp2;refine bodyPost_ret (v:=.agg #[.int .i64 4,.int .i64 (s.length:Int)]) (by simp[results,Tryz.results165,go_sem]) rfl ⟨by rw[HV.out],?_⟩;exact(Below.refl _ _).alloc (Nat.le_refl _) _
 ·have HV:Hid (fv s.length (stands (s.drop q))=.agg #[.int .i64 3,.int .i64 (q:Int)]):=by rw[stands_at s (by omega),fv_at 3 hq];rfl
  go_enter Tryz.func165,Tryz.ntmps165;go_wp2;refine bodyPost_ret (v:=.agg #[.int .i64 3,.int .i64 (q:Int)]) (by simp[results,Tryz.results165,go_sem]) rfl ⟨by rw[HV.out],?_⟩;exact(Below.refl _ _).alloc (Nat.le_refl _) _
theorem wrong_any (h:Rd w b s p dp) (hp:p<=s.length) (hs:s.length<=65536) :
  Calls Tryz.prog 187 #[.pointer (some ⟨b,0,none⟩)] w fun e w'=>e=.returned (fv s.length (stands (gaps (s.drop p))))/\Below w.heap.size w w':=by
 have hb0:=below_alloc w (.cells #[.int .i64 0,.int .i64 0] 33);have hR:=h.later hb0;have HN:Hid (Calls Tryz.prog 164 #[.pointer (some ⟨b,0,none⟩)] (w.alloc (.cells #[.int .i64 0,.int .i64 0] 33)) fun e w'=>e=.returned (.int .i64 (nx s p:Nat))/\∃ n,w'=(w.alloc (.cells #[.int .i64 0,.int .i64 0] 33)).drewN n):=next_any hR hp hs;obtain⟨F,HF⟩:∃ F,Hid (F=stands (gaps (s.drop p))):=⟨_,rfl⟩
 have HW:Hid (∀ n,Calls Tryz.prog 165 #[.pointer (some ⟨b,0,none⟩),.int .i64 (nx s p:Nat)] ((w.alloc (.cells #[.int .i64 0,.int .i64 0] 33)).drewN n) fun e w'=>e=.returned (.agg #[.int .i64 (F.1:Int),.int .i64 ((s.length-F.2:Nat):Int)]) /\
   w'.cell? ⟨w.heap.size,0,none⟩=some (.int .i64 0)/\w'.cell? ⟨w.heap.size,1,none⟩=some (.int .i64 0)/\w'.frozen? ⟨w.heap.size,0,none⟩=false/\w'.frozen? ⟨w.heap.size,1,none⟩=false/\Hid (Below w.heap.size w w')):=fun n=>by
  have:=wrongAt_any (nx s p) (hR.drew n) (nx_le s p) hs;rw[drop_nx s hp,<-HF.out]at this;refine this.mono ?_;rintro e w' ⟨h1,h2⟩;have hk:w'.heap[w.heap.size]?=some (.cells #[.int .i64 0,.int .i64 0] 33 (0,0)):=(h2.block _ (by simp)).trans (heap_alloc_new w _);refine⟨h1,by rw[Lib.cell_of_heap hk];rfl,by rw[Lib.cell_of_heap hk];rfl,Lib.frozen_of_heap hk 0,Lib.frozen_of_heap hk 1,?_⟩;exact hb0.trans ((below_drewN (Below.refl _ _) n).trans (h2.mono (by simp)))
 clear h hR hb0;go_enter Tryz.func187,Tryz.ntmps187;go_wp2_with (first | (go_at_call 164;refine HN.out.mono ?_;rintro e w' ⟨rfl,n,rfl⟩) | (go_at_call 165;refine(HW.out _).mono ?_;rintro e w' ⟨rfl,d0,d1,d2,d3,hb⟩));refine bodyPost_ret (v:=.agg #[.int .i64 (F.1:Int),.int .i64 ((s.length-F.2:Nat):Int)]) (by simp[results,Tryz.results187,go_sem,d0,d1]) rfl ⟨by rw[<-HF.out];rfl,?_⟩;exact(hb.out.setCell (p:=⟨w.heap.size,0,none⟩) (Nat.le_refl _) _).setCell (p:=⟨w.heap.size,1,none⟩) (Nat.le_refl _) _
end Flw
end Go.Proofs.YtidhpmcmbooaoaaGreatDoor
