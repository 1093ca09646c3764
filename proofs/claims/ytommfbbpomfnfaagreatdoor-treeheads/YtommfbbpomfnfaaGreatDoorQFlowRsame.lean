/- . -/
import Derived.Test.YtommfbbpomfnfaaGreatDoorQFbE
import Derived.Deep.RegionWith
import Derived.Test.YtommfbbpomfnfaaGreatDoorQFbI
import Derived.Lib.LaidTab
import Derived.MakeChecks
import Derived.LaidLaws
import Derived.Test.YtommfbbpomfnfaaGreatDoorQFbN
import Derived.OpenShut
set_option linter.unusedSimpArgs false
set_option linter.unusedVariables false
set_option maxRecDepth 100000
namespace Go.Proofs.YtommfbbpomfnfaaGreatDoor
namespace Flw
open Utf Rws Pln
open Go.RowKit
set_option maxHeartbeats 4000000
theorem tr_ext {a b:Tr} (h1:a.kind=b.kind) (h2:a.text=b.text) (h3:a.anc=b.anc) (h4:a.kids=b.kids):a=b:=by
 cases a;cases b;simp only at h1 h2 h3 h4;subst h1 h2 h3 h4;rfl
theorem take_same {xs ys:List Tr} {n:Nat} (h1:n<xs.length) (h2:n<ys.length) (ht:xs.take n=ys.take n) (he:xs.getD n tr0=ys.getD n tr0):xs.take (n+1)=ys.take (n+1):=by
 rw[List.getD_eq_getElem?_getD,List.getD_eq_getElem?_getD,List.getElem?_eq_getElem h1,List.getElem?_eq_getElem h2]at he;rw[List.take_succ_eq_append_getElem h1,List.take_succ_eq_append_getElem h2,ht];congr 2
theorem rsame_core (k k':Int) (s s' a a':ByteArray) (ad ad':Option Addr) (len len' cap cap':Nat) (w:World) (hl:len<=9223372036854775807) (hl':len'<=9223372036854775807) (d d':Nat) (ks ks':List Tr)
  (HK:Hid (KAt w d ad len ks)) (HK':Hid (KAt w d' ad' len' ks'))
  (HI:Hid (∀ v v' t t' w,TrV w d v t->TrV w d' v' t'->Calls Tryz.prog 13 #[v,v'] w fun e w'=>∃ q:Bool,e=.returned (.bool q)/\(q=true ↔ t=t')/\Below w.heap.size w w')) :
  Calls Tryz.prog 13 #[.agg #[.int .i64 k,.string s,.string a,.slice ad len cap],.agg #[.int .i64 k',.string s',.string a',.slice ad' len' cap']] w
   fun e w'=>∃ q:Bool,e=.returned (.bool q)/\(q=true ↔ k=k'/\s=s'/\a=a'/\ks=ks')/\Below w.heap.size w w':=by
 have HS:∀ x y:ByteArray,(x.toList==y.toList)=true ↔ x=y:=fun x y=>by
  rw[beq_iff_eq,ByteArray.toList_eq,ByteArray.toList_eq];exact⟨fun h=>by rw[<-mk_of x,<-mk_of y,h],fun h=>by rw[h]⟩
 have HB:∀ o o':Obj,Below w.heap.size w ((w.alloc o).alloc o'):=fun o o'=>((Below.refl _ w).alloc (Nat.le_refl _) o).alloc (by rw[World.size_alloc];omega) o'
 by_cases h1:k=k'
 ·subst h1;cases h2:(s.toList==s'.toList)
  ·have HP:Hid (¬ s=s'):=fun h=>by rw[(HS s s').2 h]at h2;cases h2
   clear HS;go_enter Tryz.func13,Tryz.ntmps13;go_wp2;go_ret;exact⟨false,rfl,⟨fun h=>(by cases h),fun h=>absurd h.2.1 HP.out⟩,HB _ _⟩
  ·cases h3:(a.toList==a'.toList)
   ·have HP:Hid (¬ a=a'):=fun h=>by rw[(HS a a').2 h]at h3;cases h3
    clear HS;go_enter Tryz.func13,Tryz.ntmps13;go_wp2;go_ret;exact⟨false,rfl,⟨fun h=>(by cases h),fun h=>absurd h.2.2.1 HP.out⟩,HB _ _⟩
   ·have E2:Hid (s=s'):=(HS s s').1 h2;have E3:Hid (a=a'):=(HS a a').1 h3;clear HS;by_cases h4:len=len'
    ·subst h4;go_enter Tryz.func13,Tryz.ntmps13;go_wp2
     have hc1:((w.alloc (Obj.cells #[.int .i64 k,.string s,.string a,.slice ad len cap] 26)).alloc (Obj.cells #[.int .i64 k,.string s',.string a',.slice ad' len cap'] 26)).cell? ⟨w.heap.size,3,none⟩=some (.slice ad len cap):=by
      rw[World.cell?_alloc_lt _ _ _ (by show w.heap.size<_;rw[World.size_alloc];omega),World.cell?_alloc_new];rfl
     have hc2:((w.alloc (Obj.cells #[.int .i64 k,.string s,.string a,.slice ad len cap] 26)).alloc (Obj.cells #[.int .i64 k,.string s',.string a',.slice ad' len cap'] 26)).cell? ⟨w.heap.size+1,3,none⟩=some (.slice ad' len cap'):=by
      have:=World.cell?_alloc_new (w.alloc (Obj.cells #[.int .i64 k,.string s,.string a,.slice ad len cap] 26)) #[.int .i64 k,.string s',.string a',.slice ad' len cap'] 26 3;rw[World.size_alloc]at this;rw[this];rfl
     have hB2:=HB (Obj.cells #[.int .i64 k,.string s,.string a,.slice ad len cap] 26) (Obj.cells #[.int .i64 k,.string s',.string a',.slice ad' len cap'] 26);have hsz:((w.alloc (Obj.cells #[.int .i64 k,.string s,.string a,.slice ad len cap] 26)).alloc (Obj.cells #[.int .i64 k,.string s',.string a',.slice ad' len cap'] 26)).heap.size=w.heap.size+2:=by rw[World.size_alloc,World.size_alloc]
     clear HB;generalize (w.alloc (Obj.cells #[.int .i64 k,.string s,.string a,.slice ad len cap] 26)).alloc (Obj.cells #[.int .i64 k,.string s',.string a',.slice ad' len cap'] 26)=W at hc1 hc2 hB2 hsz |-
     go_loopw [5] (fun i wr=>∃ n:Nat,n<=len/\i=.int .i64 n/\ks.take n=ks'.take n/\Below W.heap.size W wr) (fun i _=>len-(intOf i).toNat)
     case atStart=>exact⟨0,Nat.zero_le _,rfl,rfl,Below.refl _ _⟩
     case round =>
      obtain⟨n,hn,rfl,ht,hbe⟩:=hrel;have HT:Hid (ks.take n=ks'.take n):=ht;clear ht;have hz1:=(hbe.cell (p:=⟨w.heap.size,3,none⟩) (by show w.heap.size<_;omega)).trans hc1;have hz2:=(hbe.cell (p:=⟨w.heap.size+1,3,none⟩) (by show w.heap.size+1<_;omega)).trans hc2;have HBW:Hid (Below w.heap.size w wr):=hB2.trans (hbe.mono (by omega));by_cases hlt:n<len
      ·obtain⟨b,off,rfl,hb,hcell⟩:=HK.out.2 (by omega);obtain⟨c0,c1,c2,c3,x0,x1,x2,x3,hx⟩:=hcell n hlt;obtain⟨b',off',rfl,hb',hcell'⟩:=HK'.out.2 (by omega);obtain⟨y0,y1,y2,y3,z0,z1,z2,z3,hy⟩:=hcell' n hlt;replace x0:=(HBW.out.cell (p:=⟨b,off+n*4,none⟩) hb).trans x0;replace x1:=(HBW.out.cell (p:=⟨b,off+n*4+1,none⟩) hb).trans x1;replace x2:=(HBW.out.cell (p:=⟨b,off+n*4+2,none⟩) hb).trans x2;replace x3:=(HBW.out.cell (p:=⟨b,off+n*4+3,none⟩) hb).trans x3;replace z0:=(HBW.out.cell (p:=⟨b',off'+n*4,none⟩) hb').trans z0;replace z1:=(HBW.out.cell (p:=⟨b',off'+n*4+1,none⟩) hb').trans z1;replace z2:=(HBW.out.cell (p:=⟨b',off'+n*4+2,none⟩) hb').trans z2;replace z3:=(HBW.out.cell (p:=⟨b',off'+n*4+3,none⟩) hb').trans z3
       have HC:Hid (∀ m,Calls Tryz.prog 13 #[.agg #[c0,c1,c2,c3],.agg #[y0,y1,y2,y3]] (wr.drewN m) fun e w'=>∃ q:Bool,e=.returned (.bool q)/\Hid (q=true ↔ ks.getD n tr0=ks'.getD n tr0)/\Hid (Below w.heap.size w w')/\Below W.heap.size W w'):=by
        intro m;have b1:=below_drewN HBW.out m;have b2:=below_drewN hbe m;refine(HI.out _ _ _ _ _ (hx.later b1 (Nat.le_refl _)) (hy.later b1 (Nat.le_refl _))).mono ?_;rintro e w' ⟨q,rfl,hq,hb⟩;exact⟨q,rfl,hq,b1.trans (hb.mono b1.size),b2.trans (hb.mono b2.size)⟩
       clear hcell hcell' hx hy;go_wp2_with fail;go_region_with (go_at_call 13;refine(HC.out _).mono ?_;rintro e w2 ⟨q,rfl,hq,hbw2,hb2⟩)
       all_goals
        cases q
        ·go_wp2;go_ret;exact⟨false,rfl,⟨fun h=>(by cases h),fun h=>absurd (hq.out.2 (by rw[h.2.2.2])) (by decide)⟩,hbw2.out⟩
        ·go_wp2;go_roundw
         case rel=>exact⟨n+1,by omega,by go_num,take_same (by have:=HK.out.1;omega) (by have:=HK'.out.1;omega) HT.out (hq.out.1 rfl),hb2⟩
         case measure=>simp[intOf];omega
      ·have HE:Hid (ks=ks'):=by
        have h:=HT.out;have l1:=HK.out.1;have l2:=HK'.out.1;rw[List.take_of_length_le (by omega),List.take_of_length_le (by omega)]at h;exact h
       go_wp2;go_ret;exact⟨true,rfl,⟨fun _=>⟨by first | rfl | trivial,E2.out,E3.out,HE.out⟩,fun _=>rfl⟩,HBW.out⟩
    ·have HP:Hid (¬ ks=ks'):=fun h=>h4 (by rw[HK.out.1,HK'.out.1,h])
     have hne':((len:Int)!=(len':Int))=true:=by simp;omega
     go_enter Tryz.func13,Tryz.ntmps13;go_wp2
     all_goals first | contradiction | skip
     go_ret;exact⟨false,rfl,⟨fun h=>(by cases h),fun h=>absurd h.2.2.2 HP.out⟩,HB _ _⟩
 ·have h1':(k==k')=false:=by simpa using h1
  go_enter Tryz.func13,Tryz.ntmps13;go_wp2
  all_goals first | contradiction | skip
  go_ret;refine⟨false,rfl,?_,HB _ _⟩;simp[h1]
theorem mk_eq {a b:Ln}:mk a=mk b ↔ a=b:=⟨fun h=>mk_inj h,fun h=>by rw[h]⟩
theorem rsame_any:∀ (d:Nat) (d':Nat) (v v':Value) (t t':Tr) (w:World),TrV w d v t->TrV w d' v' t' ->
  Calls Tryz.prog 13 #[v,v'] w fun e w'=>∃ q:Bool,e=.returned (.bool q)/\(q=true ↔ t=t')/\Below w.heap.size w w'
 | 0,d',v,v',t,t',w,h,h'=>h.elim
 | d+1,0,v,v',t,t',w,h,h'=>h'.elim
 | d+1,d'+1,v,v',t,t',w,h,h'=>by
  obtain⟨ad,len,cap,rfl,hl,hc,hm,hz,hk⟩:=h;obtain⟨ad',len',cap',rfl,hl',hc',hm',hz',hk'⟩:=h';have m1:maxLen=9223372036854775807:=rfl;refine(rsame_core t.kind t'.kind (mk t.text) (mk t'.text) (mk t.anc) (mk t'.anc) ad ad' len len' cap cap' w (by omega) (by omega) d d' t.kids t'.kids ⟨hl,hk⟩ ⟨hl',hk'⟩ (fun v v' t t' w=>rsame_any d d' v v' t t' w)).mono ?_;rintro e w' ⟨q,rfl,hq,hb⟩;refine⟨q,rfl,hq.trans ?_,hb⟩;rw[mk_eq,mk_eq];exact⟨fun h=>tr_ext h.1 h.2.1 h.2.2.1 h.2.2.2,fun h=>by rw[h];exact⟨rfl,rfl,rfl,rfl⟩⟩
end Flw
namespace Pln
open Utf Rws
open Go.RowKit
theorem iface_of_trod {H:Type} {enc:TypeId × Value->H} {P:Program} {w:World} {base:Nat} {sp:Nat->Bool} {held:Bool} {fuel:Nat} {t:TypeId} {ms:Array (String × TypeId)} {cs:List Value} {nm:String} {d:DataW H} {p:List MemPlace}
  (hi:P.underlying t=some (.interface ms)) (h:DataW.trod enc P w base sp held fuel t cs=some (.iface nm d,p)):∃ u v,cs=[.iface u v]:=by
 cases fuel with
 | zero=>simp[DataW.trod]at h
 | succ fuel =>
  simp only[DataW.trod,hi]at h;split at h
  all_goals first
   | (exact⟨_,_,rfl⟩)
   | (exfalso;simp at h;done)
   | (exfalso;rename_i heq _;cases heq;done)
   | (exfalso;rename_i heq;cases heq;done)
   | (exfalso;simp_all;done)
theorem laid_iface {P:Program} {n nm:String} {d:DataW Unit} {r:List (String × DataW Unit)} {W:World} {g:Nat} {ti:TypeId} {ms:Array (String × TypeId)}
  (h:∃ q,DataW.LaidVars P W ((n,.iface nm d)::r) q) (hg:P.globalNamed n=some g) (ht:(P.globals[g]?).map (·.type)=some ti) (hi:P.underlying ti=some (.interface ms)) :
  ∃ u v,W.cell? ⟨g,0,none⟩=some (.iface u v):=by
 obtain⟨q,g0,t0,cs0,f0,p0,q0,hg0,ht0,hv0,hd0,_,_⟩:=h;obtain rfl:=Option.some.inj (hg.symm.trans hg0);obtain rfl:=Option.some.inj (ht.symm.trans ht0);obtain⟨u,v,e⟩:=iface_of_trod hi hd0;refine⟨u,v,?_⟩;rw[World.var?_cell hg0 hv0 0,<-Array.getElem?_toList,e];rfl
theorem laid_tail {P:Program} {x:String × DataW Unit} {r:List (String × DataW Unit)} {W:World} (h:∃ q,DataW.LaidVars P W (x::r) q):∃ q,DataW.LaidVars P W r q:=by
 obtain⟨q,g0,t0,cs0,f0,p0,q0,_,_,_,_,h,_⟩:=h;exact⟨q0,h⟩
theorem laid_tab {P:Program} {W:World} {name:String} {k:IntKind} {zs:List Int} {rest:List (String × DataW Unit)} {g:Nat} {t e:TypeId} {n:Nat}
  (h:∃ q,DataW.LaidVars P W ((name,Lib.tabData k zs)::rest) q)
  (hg:P.globalNamed name=some g) (hty:(P.globals[g]?).map (·.type)=some t) (ht:P.underlying t=some (.array n e)) (he:P.underlying e=some (.int k)) (hce:P.cellsOf e=1) (hct:P.cellsOf t=n):Lib.TabIs P W name k zs:=by
 obtain⟨q,g',t',cs,fuel,p,q',hg',ht',hvar,hd,_,_⟩:=h;obtain rfl:=Option.some.inj (hg.symm.trans hg');obtain rfl:=Option.some.inj (hty.symm.trans ht');unfold Lib.TabIs;rw[hvar,<-Lib.cells_of_tab ht he hce hct hd]
theorem tabs_of {W:World} (h:laidMetH Tryz.prog Rows.treeHeadsRow.laid W):Tabs W:=by
 rw[MakeChecks.laidMetH_plain _ _ _ (by kernel_rfl)]at h;obtain⟨ps,h,_⟩:=h;have h0:∃ q,DataW.LaidVars Tryz.prog W Rows.treeHeadsRow.laid q:=⟨ps,h⟩;have h2:=laid_tail (laid_tail h0);have h4:=laid_tail (laid_tail h2);have h5:=laid_tail h4;refine⟨?_,?_,?_⟩
 ·exact laid_tab (n:=20) (t:=260) (e:=234) (g:=7) (zs:=Lib.pow10Tab) h2 (by kernel_rfl) (by kernel_rfl) (by kernel_rfl) (by kernel_rfl) (by kernel_rfl) (by kernel_rfl)
 ·exact laid_iface (g:=5) h5 (by kernel_rfl) (by kernel_rfl) Tryz.underlying141
 ·exact laid_iface (g:=6) h4 (by kernel_rfl) (by kernel_rfl) Tryz.underlying141
end Pln
namespace Flw
open Utf Rws
open Go.RowKit
section
variable {H:Type} {enc:TypeId × Value->H} {P:Program} {w:World} {base:Nat} {sp:Nat->Bool} {held:Bool} {fuel:Nat} {t e t0 t1:TypeId} {n:Nat} {cs:List Value} {p:List MemPlace}
theorem cells_of_pair {f0 f1:Field} {a b:Int} (he:P.underlying e=some (.struct #[f0,f1])) (h0:f0.offset=0) (h1:f1.offset=1) (hu0:P.underlying f0.type=some (.int .u8)) (hu1:P.underlying f1.type=some (.int .i64)) (hc0:P.cellsOf f0.type=1) (hc1:P.cellsOf f1.type=1) (hce:P.cellsOf e=2)
  (h:DataW.trod enc P w base sp held fuel e cs=some (.agg [.lit (.int .u8 a),.lit (.int .i64 b)],p)):cs=[.int .u8 a,.int .i64 b]:=by
 obtain⟨xs,m,_,hx,hl,hxl,hget⟩:=DataW.trod_struct he h;have g0:=hget 0 f0 rfl;have g1:=hget 1 f1 rfl;have hx1:xs.map (·.1)=[.lit (.int .u8 a),.lit (.int .i64 b)]:=by have:=congrArg Prod.fst hx;simp only[DataW.agg.injEq]at this;exact this.symm
 match xs,hxl,hx1,g0,g1 with
 | [x0,x1],_,hx1,g0,g1 =>
  simp only[List.map_cons,List.map_nil,List.cons.injEq,and_true]at hx1;obtain⟨z0,k0,k1,_⟩:=DataW.trod_int hu0 g0;obtain⟨z1,k2,k3,_⟩:=DataW.trod_int hu1 g1;rw[k1,k3]at hx1;simp only[DataW.lit.injEq,Lit.int.injEq,true_and]at hx1;obtain⟨rfl,rfl⟩:=hx1;rw[h0,hc0,List.drop_zero]at k0;rw[h1,hc1]at k2;rw[hce]at hl
  match cs,hl,k0,k2 with
  | [c0,c1],_,k0,k2 =>
   simp at k0 k2;rw[k0,k2]
end
theorem var_heap {P:Program} {W:World} {name:String} {g:Nat} {cs:Array Value} (hg:P.globalNamed name=some g) (hv:W.var? P name=some cs):∃ t fz,W.heap[g]?=some (.cells cs t fz):=by
 unfold World.var? at hv;rw[hg]at hv;simp only[Option.bind_some]at hv;split at hv
 ·rename_i c t fz hh;simp only[Option.some.injEq]at hv;subst hv;exact⟨_,_,hh⟩
 ·cases hv
theorem cellsS:Tryz.prog.cellsOf 212=2:=by kernel_rfl
theorem cellsN:Tryz.prog.cellsOf 222=2:=by kernel_rfl
theorem cells6:Tryz.prog.cellsOf 213=12:=by kernel_rfl
theorem cells3:Tryz.prog.cellsOf 223=6:=by kernel_rfl
theorem cellsB:Tryz.prog.cellsOf 5=1:=by kernel_rfl
theorem cellsI:Tryz.prog.cellsOf 3=1:=by kernel_rfl
theorem seg {cs:List Value} {i:Nat} {a b:Value} (h:(cs.drop (i*2)).take 2=[a,b]):cs[i*2]?=some a/\cs[i*2+1]?=some b:=by
 have h0:=congrArg (·[0]?) h;have h1:=congrArg (·[1]?) h;simp[List.getElem?_take,List.getElem?_drop]at h0 h1;exact⟨h0,h1⟩
def shName:String:=match Rows.treeHeadsRow.laid with
 | _::_::_::_::_::_::x::_=>x.1
 | _=>Rows.treeHeadsRow.func
def nuName:String:=match Rows.treeHeadsRow.laid with
 | _::_::_::_::_::_::_::x::_=>x.1
 | _=>Rows.treeHeadsRow.func
theorem qtabs_of {W:World} {r:List (String × DataW Unit)} (h:∃ q,DataW.LaidVars Tryz.prog W ((shName,Rows.laid_grommet_quote_shorts)::(nuName,Rows.laid_grommet_quote_numbered)::r) q):Quo.Tabs W:=by
 have h2:=Pln.laid_tail h;refine⟨?_,?_⟩
 ·obtain⟨q,g,t,cs,fuel,p,q',hg,ht,hv,hd,_,_⟩:=h;have hg':Tryz.prog.globalNamed shName=some 2:=by kernel_rfl
  obtain rfl:=Option.some.inj (hg'.symm.trans hg);have ht':(Tryz.prog.globals[2]?).map (·.type)=some 213:=by kernel_rfl
  obtain rfl:=Option.some.inj (ht'.symm.trans ht);obtain⟨t,fz,hh⟩:=var_heap hg hv;obtain⟨xs,m,_,hx,hl,hxl,hget⟩:=DataW.trod_array Tryz.underlying213 hd
  have hx1:xs.map (·.1)=[.agg [.lit (.int .u8 34),.lit (.int .i64 34)],.agg [.lit (.int .u8 92),.lit (.int .i64 92)],.agg [.lit (.int .u8 110),.lit (.int .i64 10)],.agg [.lit (.int .u8 116),.lit (.int .i64 9)],.agg [.lit (.int .u8 114),.lit (.int .i64 13)],.agg [.lit (.int .u8 48),.lit (.int .i64 0)]]:=by
   have:=congrArg Prod.fst hx;simp only[Rows.laid_grommet_quote_shorts,DataW.agg.injEq]at this;exact this.symm
  have key:∀ i a b,i<6->(xs.map (·.1))[i]?=some (.agg [.lit (.int .u8 a),.lit (.int .i64 b)])->cs.toList[i*2]?=some (.int .u8 a)/\cs.toList[i*2+1]?=some (.int .i64 b):=by
   intro i a b hi hxi;have hg2:=hget i hi;rw[List.getElem?_map]at hxi;obtain⟨y,hy,hy2⟩:=Option.map_eq_some_iff.1 hxi;rw[hy,cellsS]at hg2;obtain⟨y1,y2⟩:=y;simp only at hy2;subst hy2;exact seg (cells_of_pair Tryz.underlying212 rfl rfl Tryz.underlying5 Tryz.underlying3 cellsB cellsI cellsS hg2)
  rw[hx1]at key;rw[cells6]at hl;obtain⟨k0,k1⟩:=key 0 _ _ (by decide) rfl;obtain⟨k2,k3⟩:=key 1 _ _ (by decide) rfl;obtain⟨k4,k5⟩:=key 2 _ _ (by decide) rfl;obtain⟨k6,k7⟩:=key 3 _ _ (by decide) rfl;obtain⟨k8,k9⟩:=key 4 _ _ (by decide) rfl;obtain⟨k10,k11⟩:=key 5 _ _ (by decide) rfl;refine⟨t,fz,hh.trans (congrArg (fun c=>some (Obj.cells c t fz)) ?_)⟩;apply Array.ext';generalize cs.toList=l at *
  match l,hl,k0,k1,k2,k3,k4,k5,k6,k7,k8,k9,k10,k11 with
  | [c0,c1,c2,c3,c4,c5,c6,c7,c8,c9,c10,c11],_,k0,k1,k2,k3,k4,k5,k6,k7,k8,k9,k10,k11 =>
   simp at k0 k1 k2 k3 k4 k5 k6 k7 k8 k9 k10 k11;rw[k0,k1,k2,k3,k4,k5,k6,k7,k8,k9,k10,k11]
 ·obtain⟨q,g,t,cs,fuel,p,q',hg,ht,hv,hd,_,_⟩:=h2;have hg':Tryz.prog.globalNamed nuName=some 4:=by kernel_rfl
  obtain rfl:=Option.some.inj (hg'.symm.trans hg);have ht':(Tryz.prog.globals[4]?).map (·.type)=some 223:=by kernel_rfl
  obtain rfl:=Option.some.inj (ht'.symm.trans ht);obtain⟨t,fz,hh⟩:=var_heap hg hv;obtain⟨xs,m,_,hx,hl,hxl,hget⟩:=DataW.trod_array Tryz.underlying223 hd
  have hx1:xs.map (·.1)=[.agg [.lit (.int .u8 120),.lit (.int .i64 2)],.agg [.lit (.int .u8 117),.lit (.int .i64 4)],.agg [.lit (.int .u8 85),.lit (.int .i64 8)]]:=by
   have:=congrArg Prod.fst hx;simp only[Rows.laid_grommet_quote_numbered,DataW.agg.injEq]at this;exact this.symm
  have key:∀ i a b,i<3->(xs.map (·.1))[i]?=some (.agg [.lit (.int .u8 a),.lit (.int .i64 b)])->cs.toList[i*2]?=some (.int .u8 a)/\cs.toList[i*2+1]?=some (.int .i64 b):=by
   intro i a b hi hxi;have hg2:=hget i hi;rw[List.getElem?_map]at hxi;obtain⟨y,hy,hy2⟩:=Option.map_eq_some_iff.1 hxi;rw[hy,cellsN]at hg2;obtain⟨y1,y2⟩:=y;simp only at hy2;subst hy2;exact seg (cells_of_pair Tryz.underlying222 rfl rfl Tryz.underlying5 Tryz.underlying3 cellsB cellsI cellsN hg2)
  rw[hx1]at key;rw[cells3]at hl;obtain⟨k0,k1⟩:=key 0 _ _ (by decide) rfl;obtain⟨k2,k3⟩:=key 1 _ _ (by decide) rfl;obtain⟨k4,k5⟩:=key 2 _ _ (by decide) rfl;refine⟨t,fz,hh.trans (congrArg (fun c=>some (Obj.cells c t fz)) ?_)⟩;apply Array.ext';generalize cs.toList=l at *
  match l,hl,k0,k1,k2,k3,k4,k5 with
  | [c0,c1,c2,c3,c4,c5],_,k0,k1,k2,k3,k4,k5 =>
   simp at k0 k1 k2 k3 k4 k5;rw[k0,k1,k2,k3,k4,k5]
theorem tb_met {W:World} (h:laidMetH Tryz.prog Rows.treeHeadsRow.laid W):Tb W:=by
 refine⟨Pln.tabs_of h,?_⟩;rw[MakeChecks.laidMetH_plain _ _ _ (by kernel_rfl)]at h;obtain⟨ps,h,_⟩:=h;have h2:∃ q,DataW.LaidVars Tryz.prog W Rows.treeHeadsRow.laid q:=⟨ps,h⟩;exact qtabs_of (Pln.laid_tail (Pln.laid_tail (Pln.laid_tail (Pln.laid_tail (Pln.laid_tail (Pln.laid_tail h2))))))
end Flw
end Go.Proofs.YtommfbbpomfnfaaGreatDoor
