/- . -/
import Derived.Test.YtidhpmcmbooaoaaGreatDoorR13PlainAny3
import Derived.Lib.LaidTab
import Derived.MakeChecks
import Derived.LaidLaws
import Derived.Test.YtidhpmcmbooaoaaGreatDoorR24FlowScal
import Derived.OpenShut
set_option linter.unusedSimpArgs false
set_option linter.unusedVariables false
set_option maxRecDepth 100000
namespace Go.Proofs.YtidhpmcmbooaoaaGreatDoor
namespace Pln
open Utf Rws
open Go.RowKit
theorem iface_of_trod {H:Type} {enc:TypeId × Value->H} {P:Program} {w:World} {base:Nat} {sp:Nat->Bool} {held:Bool} {fuel:Nat} {t:TypeId} {ms:Array (String × TypeId)} {cs:List Value} {nm:String} {d:DataW H} {p:List MemPlace}
  (hi:P.underlying t=some (.interface ms)) (h:DataW.trod enc P w base sp held fuel t cs=some (.iface nm d,p)):∃ u v,cs=[.iface u v]:=by
 cases fuel with
 | zero=>simp[DataW.trod]at h
 | succ fuel =>
  simp only[DataW.trod,hi]at h;split at h
  all_goals first
   | (exact⟨_,_,rfl⟩)
   | (exfalso;simp at h;done)
   | (exfalso;rename_i heq _;cases heq;done)
   | (exfalso;rename_i heq;cases heq;done)
   | (exfalso;simp_all;done)
theorem laid_iface {P:Program} {n nm:String} {d:DataW Unit} {r:List (String × DataW Unit)} {W:World} {g:Nat} {ti:TypeId} {ms:Array (String × TypeId)}
  (h:∃ q,DataW.LaidVars P W ((n,.iface nm d)::r) q) (hg:P.globalNamed n=some g) (ht:(P.globals[g]?).map (·.type)=some ti) (hi:P.underlying ti=some (.interface ms)) :
  ∃ u v,W.cell? ⟨g,0,none⟩=some (.iface u v):=by
 obtain⟨q,g0,t0,cs0,f0,p0,q0,hg0,ht0,hv0,hd0,_,_⟩:=h;obtain rfl:=Option.some.inj (hg.symm.trans hg0);obtain rfl:=Option.some.inj (ht.symm.trans ht0);obtain⟨u,v,e⟩:=iface_of_trod hi hd0;refine⟨u,v,?_⟩;rw[World.var?_cell hg0 hv0 0,<-Array.getElem?_toList,e];rfl
theorem laid_tail {P:Program} {x:String × DataW Unit} {r:List (String × DataW Unit)} {W:World} (h:∃ q,DataW.LaidVars P W (x::r) q):∃ q,DataW.LaidVars P W r q:=by
 obtain⟨q,g0,t0,cs0,f0,p0,q0,_,_,_,_,h,_⟩:=h;exact⟨q0,h⟩
theorem laid_tab {P:Program} {W:World} {name:String} {k:IntKind} {zs:List Int} {rest:List (String × DataW Unit)} {g:Nat} {t e:TypeId} {n:Nat}
  (h:∃ q,DataW.LaidVars P W ((name,Lib.tabData k zs)::rest) q)
  (hg:P.globalNamed name=some g) (hty:(P.globals[g]?).map (·.type)=some t) (ht:P.underlying t=some (.array n e)) (he:P.underlying e=some (.int k)) (hce:P.cellsOf e=1) (hct:P.cellsOf t=n):Lib.TabIs P W name k zs:=by
 obtain⟨q,g',t',cs,fuel,p,q',hg',ht',hvar,hd,_,_⟩:=h;obtain rfl:=Option.some.inj (hg.symm.trans hg');obtain rfl:=Option.some.inj (hty.symm.trans ht');unfold Lib.TabIs;rw[hvar,<-Lib.cells_of_tab ht he hce hct hd]
theorem tabs_of {W:World} (h:laidMetH Tryz.prog Rows.treeLaysRow.laid W):Tabs W:=by
 rw[MakeChecks.laidMetH_plain _ _ _ (by kernel_rfl)]at h;obtain⟨ps,h,_⟩:=h;have h0:∃ q,DataW.LaidVars Tryz.prog W Rows.treeLaysRow.laid q:=⟨ps,h⟩;have h2:=laid_tail (laid_tail h0);have h4:=laid_tail (laid_tail h2);have h5:=laid_tail h4;refine⟨?_,?_,?_⟩
 ·exact laid_tab (n:=20) (t:=247) (e:=216) (g:=7) (zs:=Lib.pow10Tab) h2 (by kernel_rfl) (by kernel_rfl) (by kernel_rfl) (by kernel_rfl) (by kernel_rfl) (by kernel_rfl)
 ·exact laid_iface (g:=3) h5 (by kernel_rfl) (by kernel_rfl) Tryz.underlying70
 ·exact laid_iface (g:=4) h4 (by kernel_rfl) (by kernel_rfl) Tryz.underlying70
end Pln
namespace Flw
open Utf Rws
open Go.RowKit
section
variable {H:Type} {enc:TypeId × Value->H} {P:Program} {w:World} {base:Nat} {sp:Nat->Bool} {held:Bool} {fuel:Nat} {t e t0 t1:TypeId} {n:Nat} {cs:List Value} {p:List MemPlace}
theorem cells_of_pair {f0 f1:Field} {a b:Int} (he:P.underlying e=some (.struct #[f0,f1])) (h0:f0.offset=0) (h1:f1.offset=1) (hu0:P.underlying f0.type=some (.int .u8)) (hu1:P.underlying f1.type=some (.int .i64)) (hc0:P.cellsOf f0.type=1) (hc1:P.cellsOf f1.type=1) (hce:P.cellsOf e=2)
  (h:DataW.trod enc P w base sp held fuel e cs=some (.agg [.lit (.int .u8 a),.lit (.int .i64 b)],p)):cs=[.int .u8 a,.int .i64 b]:=by
 obtain⟨xs,m,_,hx,hl,hxl,hget⟩:=DataW.trod_struct he h;have g0:=hget 0 f0 rfl;have g1:=hget 1 f1 rfl;have hx1:xs.map (·.1)=[.lit (.int .u8 a),.lit (.int .i64 b)]:=by have:=congrArg Prod.fst hx;simp only[DataW.agg.injEq]at this;exact this.symm
 match xs,hxl,hx1,g0,g1 with
 | [x0,x1],_,hx1,g0,g1 =>
  simp only[List.map_cons,List.map_nil,List.cons.injEq,and_true]at hx1;obtain⟨z0,k0,k1,_⟩:=DataW.trod_int hu0 g0;obtain⟨z1,k2,k3,_⟩:=DataW.trod_int hu1 g1;rw[k1,k3]at hx1;simp only[DataW.lit.injEq,Lit.int.injEq,true_and]at hx1;obtain⟨rfl,rfl⟩:=hx1;rw[h0,hc0,List.drop_zero]at k0;rw[h1,hc1]at k2;rw[hce]at hl
  match cs,hl,k0,k2 with
  | [c0,c1],_,k0,k2 =>
   simp at k0 k2;rw[k0,k2]
end
theorem var_heap {P:Program} {W:World} {name:String} {g:Nat} {cs:Array Value} (hg:P.globalNamed name=some g) (hv:W.var? P name=some cs):∃ t fz,W.heap[g]?=some (.cells cs t fz):=by
 unfold World.var? at hv;rw[hg]at hv;simp only[Option.bind_some]at hv;split at hv
 ·rename_i c t fz hh;simp only[Option.some.injEq]at hv;subst hv;exact⟨_,_,hh⟩
 ·cases hv
theorem cellsS:Tryz.prog.cellsOf 140=2:=by kernel_rfl
theorem cellsN:Tryz.prog.cellsOf 170=2:=by kernel_rfl
theorem cells6:Tryz.prog.cellsOf 141=12:=by kernel_rfl
theorem cells3:Tryz.prog.cellsOf 171=6:=by kernel_rfl
theorem cellsB:Tryz.prog.cellsOf 5=1:=by kernel_rfl
theorem cellsI:Tryz.prog.cellsOf 3=1:=by kernel_rfl
theorem seg {cs:List Value} {i:Nat} {a b:Value} (h:(cs.drop (i*2)).take 2=[a,b]):cs[i*2]?=some a/\cs[i*2+1]?=some b:=by
 have h0:=congrArg (·[0]?) h;have h1:=congrArg (·[1]?) h;simp[List.getElem?_take,List.getElem?_drop]at h0 h1;exact⟨h0,h1⟩
def shName:String:=match Rows.treeLaysRow.laid with
 | _::_::_::_::_::_::x::_=>x.1
 | _=>Rows.treeLaysRow.func
def nuName:String:=match Rows.treeLaysRow.laid with
 | _::_::_::_::_::_::_::x::_=>x.1
 | _=>Rows.treeLaysRow.func
theorem qtabs_of {W:World} {r:List (String × DataW Unit)} (h:∃ q,DataW.LaidVars Tryz.prog W ((shName,Rows.laid_grommet_quote_shorts)::(nuName,Rows.laid_grommet_quote_numbered)::r) q):Quo.Tabs W:=by
 have h2:=Pln.laid_tail h;refine⟨?_,?_⟩
 ·obtain⟨q,g,t,cs,fuel,p,q',hg,ht,hv,hd,_,_⟩:=h;have hg':Tryz.prog.globalNamed shName=some 0:=by kernel_rfl
  obtain rfl:=Option.some.inj (hg'.symm.trans hg);have ht':(Tryz.prog.globals[0]?).map (·.type)=some 141:=by kernel_rfl
  obtain rfl:=Option.some.inj (ht'.symm.trans ht);obtain⟨t,fz,hh⟩:=var_heap hg hv;obtain⟨xs,m,_,hx,hl,hxl,hget⟩:=DataW.trod_array Tryz.underlying141 hd
  have hx1:xs.map (·.1)=[.agg [.lit (.int .u8 34),.lit (.int .i64 34)],.agg [.lit (.int .u8 92),.lit (.int .i64 92)],.agg [.lit (.int .u8 110),.lit (.int .i64 10)],.agg [.lit (.int .u8 116),.lit (.int .i64 9)],.agg [.lit (.int .u8 114),.lit (.int .i64 13)],.agg [.lit (.int .u8 48),.lit (.int .i64 0)]]:=by
   have:=congrArg Prod.fst hx;simp only[Rows.laid_grommet_quote_shorts,DataW.agg.injEq]at this;exact this.symm
  have key:∀ i a b,i<6->(xs.map (·.1))[i]?=some (.agg [.lit (.int .u8 a),.lit (.int .i64 b)])->cs.toList[i*2]?=some (.int .u8 a)/\cs.toList[i*2+1]?=some (.int .i64 b):=by
   intro i a b hi hxi;have hg2:=hget i hi;rw[List.getElem?_map]at hxi;obtain⟨y,hy,hy2⟩:=Option.map_eq_some_iff.1 hxi;rw[hy,cellsS]at hg2;obtain⟨y1,y2⟩:=y;simp only at hy2;subst hy2;exact seg (cells_of_pair Tryz.underlying140 rfl rfl Tryz.underlying5 Tryz.underlying3 cellsB cellsI cellsS hg2)
  rw[hx1]at key;rw[cells6]at hl;obtain⟨k0,k1⟩:=key 0 _ _ (by decide) rfl;obtain⟨k2,k3⟩:=key 1 _ _ (by decide) rfl;obtain⟨k4,k5⟩:=key 2 _ _ (by decide) rfl;obtain⟨k6,k7⟩:=key 3 _ _ (by decide) rfl;obtain⟨k8,k9⟩:=key 4 _ _ (by decide) rfl;obtain⟨k10,k11⟩:=key 5 _ _ (by decide) rfl;refine⟨t,fz,hh.trans (congrArg (fun c=>some (Obj.cells c t fz)) ?_)⟩;apply Array.ext';generalize cs.toList=l at *
  match l,hl,k0,k1,k2,k3,k4,k5,k6,k7,k8,k9,k10,k11 with
  | [c0,c1,c2,c3,c4,c5,c6,c7,c8,c9,c10,c11],_,k0,k1,k2,k3,k4,k5,k6,k7,k8,k9,k10,k11 =>
   simp at k0 k1 k2 k3 k4 k5 k6 k7 k8 k9 k10 k11;rw[k0,k1,k2,k3,k4,k5,k6,k7,k8,k9,k10,k11]
 ·obtain⟨q,g,t,cs,fuel,p,q',hg,ht,hv,hd,_,_⟩:=h2;have hg':Tryz.prog.globalNamed nuName=some 1:=by kernel_rfl
  obtain rfl:=Option.some.inj (hg'.symm.trans hg);have ht':(Tryz.prog.globals[1]?).map (·.type)=some 171:=by kernel_rfl
  obtain rfl:=Option.some.inj (ht'.symm.trans ht);obtain⟨t,fz,hh⟩:=var_heap hg hv;obtain⟨xs,m,_,hx,hl,hxl,hget⟩:=DataW.trod_array Tryz.underlying171 hd
  have hx1:xs.map (·.1)=[.agg [.lit (.int .u8 120),.lit (.int .i64 2)],.agg [.lit (.int .u8 117),.lit (.int .i64 4)],.agg [.lit (.int .u8 85),.lit (.int .i64 8)]]:=by
   have:=congrArg Prod.fst hx;simp only[Rows.laid_grommet_quote_numbered,DataW.agg.injEq]at this;exact this.symm
  have key:∀ i a b,i<3->(xs.map (·.1))[i]?=some (.agg [.lit (.int .u8 a),.lit (.int .i64 b)])->cs.toList[i*2]?=some (.int .u8 a)/\cs.toList[i*2+1]?=some (.int .i64 b):=by
   intro i a b hi hxi;have hg2:=hget i hi;rw[List.getElem?_map]at hxi;obtain⟨y,hy,hy2⟩:=Option.map_eq_some_iff.1 hxi;rw[hy,cellsN]at hg2;obtain⟨y1,y2⟩:=y;simp only at hy2;subst hy2;exact seg (cells_of_pair Tryz.underlying170 rfl rfl Tryz.underlying5 Tryz.underlying3 cellsB cellsI cellsN hg2)
  rw[hx1]at key;rw[cells3]at hl;obtain⟨k0,k1⟩:=key 0 _ _ (by decide) rfl;obtain⟨k2,k3⟩:=key 1 _ _ (by decide) rfl;obtain⟨k4,k5⟩:=key 2 _ _ (by decide) rfl;refine⟨t,fz,hh.trans (congrArg (fun c=>some (Obj.cells c t fz)) ?_)⟩;apply Array.ext';generalize cs.toList=l at *
  match l,hl,k0,k1,k2,k3,k4,k5 with
  | [c0,c1,c2,c3,c4,c5],_,k0,k1,k2,k3,k4,k5 =>
   simp at k0 k1 k2 k3 k4 k5;rw[k0,k1,k2,k3,k4,k5]
theorem tb_met {W:World} (h:laidMetH Tryz.prog Rows.treeLaysRow.laid W):Tb W:=by
 refine⟨Pln.tabs_of h,?_⟩;rw[MakeChecks.laidMetH_plain _ _ _ (by kernel_rfl)]at h;obtain⟨ps,h,_⟩:=h;have h2:∃ q,DataW.LaidVars Tryz.prog W Rows.treeLaysRow.laid q:=⟨ps,h⟩;exact qtabs_of (Pln.laid_tail (Pln.laid_tail (Pln.laid_tail (Pln.laid_tail (Pln.laid_tail (Pln.laid_tail h2))))))
end Flw
end Go.Proofs.YtidhpmcmbooaoaaGreatDoor
