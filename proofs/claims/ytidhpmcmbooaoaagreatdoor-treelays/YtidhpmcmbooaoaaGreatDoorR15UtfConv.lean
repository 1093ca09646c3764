/- . -/
import Derived.Laws.BytesArg
import Derived.Test.YtidhpmcmbooaoaaGreatDoorR08UtfFirst
import Derived.Lib.FrozenHead2
import Derived.Lib.OthersKept
import Derived.Lib.UnsafeStr
import Derived.Lib.Builder
import Derived.Laws.Externs
import Derived.Deep.RegionWith
import Derived.BigRegion
import Derived.Test.YtidhpmcmbooaoaaGreatDoorR01RowsPlain
set_option linter.unusedSimpArgs false
set_option linter.unusedVariables false
set_option maxRecDepth 100000
namespace Go.Proofs.YtidhpmcmbooaoaaGreatDoor
namespace Utf
open Go.RowKit
theorem Tryz.info5:(Tryz.prog.info? 5).map (fun i=>(i.zero,i.size,i.bytes))=some (some (.int .u8 0),1,1):=by kernel_rfl
theorem news_cells (w:World) (l:List Int) (t:TypeId):∀ j u,(l.map (Value.int .u8))[j]?=some u->(w.alloc (.cells (l.map (Value.int .u8)).toArray t)).cell? ((⟨w.heap.size,0,none⟩:Addr).add j)=some u:=by
 intro j u hj;have e:(⟨w.heap.size,0,none⟩:Addr).add j=⟨w.heap.size,j,none⟩:=by unfold Addr.add;split<;>simp_all
 rw[e,cell_of_row _ w.heap.size j (l.map (Value.int .u8)).toArray t (0,0) (heap_alloc_new w _)];simpa using hj
theorem news_one (l:List Int):∀ u∈l.map (Value.int .u8),u.oneCell'=true:=by
 intro u hu;obtain⟨n,_,rfl⟩:=List.mem_map.1 hu;rfl
theorem step {w wr w1:World} {e:TypeId} {u v':Value} {bs news:List Int} {o:Obj} {m:Nat} (hown:wr.ownsRow w.heap.size e 1 u bs.length (bs.map (Value.int .u8))) (hbe:Below w.heap.size w wr)
  (hown':w1.ownsRow w.heap.size e 1 v' (bs.length+m) (bs.map (Value.int .u8)++news.map (Value.int .u8))) (hgrow:(wr.alloc o).grownBy w1 u.ownBlock) (hm:news.length=m) :
  w1.ownsRow w.heap.size e 1 v' (bs++news).length ((bs++news).map (Value.int .u8))/\Below w.heap.size w w1:=by
 subst hm;refine⟨by rw[List.length_append,List.map_append];exact hown',?_⟩;have hs:=hbe.size;exact(hbe.alloc hs o).grown hgrow (by simp;omega) (fun k hk=>(hown.lt k hk).1)
theorem conv_own {w:World} {base n:Nat} {v:Value} {xs:List Int} (h:w.ownsRow base 5 1 v n (xs.map (Value.int .u8))) :
  (convert 51 9 v).run Tryz.prog w=.ok (.string (strOfNums xs)) w:=by
 obtain⟨hl,h⟩:=h;rcases h with ⟨rfl,rfl⟩ | ⟨g,cap,cur,rfl,hb,hg,hn,hm,hs,ht⟩
 ·have e:xs=[]:=by simpa using hl
  subst e;exact run_convert_bytes_nil w 51 5 Tryz.underlying51 Tryz.underlying5 0 0 9 Tryz.underlying9
 ·have hx:xs.length=n:=by simpa using hl
  refine run_convert_bytes_arg w 51 5 Tryz.underlying51 Tryz.underlying5 g 0 n cap xs hx ?_ 9 Tryz.underlying9;intro i hi;rw[Nat.zero_add,cell_of_row w g i cur 5 (0,0) hg]
  have h1:(cur.toList.take (n*1))[i]?=some (.int .u8 (xs.getD i 0)):=by
   rw[ht,List.getElem?_map,List.getD_eq_getElem?_getD,List.getElem?_eq_getElem (by omega)];rfl
  rw[List.getElem?_take,if_pos (by omega)]at h1;simpa using h1
end Utf
namespace Quo
open Utf Rws
open Go.RowKit
structure Emb (T:TypeId) (n:Nat):Prop where
 ne:T≠5
 lies:liesAt Tryz.prog Tryz.prog.depth T (n / Tryz.prog.cellsOf T) 0 53 1=true
theorem embR:Emb 176 4:=⟨by decide,by kernel_rfl⟩
theorem embW:Emb 116 2:=⟨by decide,by kernel_rfl⟩
theorem sizeB:(Tryz.prog.info? 53).map (·.size)=some 2:=by kernel_rfl
def BAt (T:TypeId) (B b:Nat) (p:Value) (tl bs:List Value) (w:World):Prop :=
 B<=b/\∃ v,w.heap[b]?=some (.cells (p::v::tl).toArray T (0,0))/\w.ownsRowF B 5 1 v bs.length bs/\v.ownBlock≠some b/\(bs=[]->v=.slice none 0 0)
def Bld (T:TypeId) (B b:Nat) (tl bs:List Value) (w:World):Prop :=
 BAt T B b (.pointer none) tl bs w\/BAt T B b (.pointer (some ⟨b,0,none⟩)) tl bs w
variable {T:TypeId} {B b:Nat} {p:Value} {tl bs:List Value} {w:World}
theorem BAt.lt (h:BAt T B b p tl bs w):b<w.heap.size:=by
 obtain⟨_,v,hb,_⟩:=h;exact(Array.getElem?_eq_some_iff.1 hb).1
theorem BAt.cell0 (h:BAt T B b p tl bs w):w.cell? ⟨b,0,none⟩=some p:=by
 obtain⟨_,v,hb,_⟩:=h;rw[Lib.cell_of_heap hb];rfl
theorem BAt.shape (h:BAt T B b p tl bs w):w.shape? b=some (T,tl.length+2):=by
 obtain⟨_,v,hb,_⟩:=h;simp[World.shape?,hb]
theorem BAt.frozen (h:BAt T B b p tl bs w) (i:Nat):w.frozen? ⟨b,i,none⟩=false:=by
 obtain⟨_,v,hb,_⟩:=h;exact Lib.frozen_of_heap hb i
theorem BAt.used (h:BAt T B b p tl bs w) (q:Value):BAt T B b q tl bs (w.setCell ⟨b,0,none⟩ q):=by
 obtain⟨hB,v,hb,hown,hne,h0⟩:=h;refine⟨hB,v,?_,?_,hne,h0⟩
 ·simp[World.setCell,Array.getElem?_modify,hb]
 ·exact hown.kept (row:=some b) ⟨rfl,rfl,rfl,by simp[World.setCell],fun k _ hk=>Below.heap_setCell _ _ _ _ (fun e=>hk (by simp[e]))⟩ (Or.inr hne)
theorem BAt.put {v v':Value} {bs':List Value} (hT:T≠5) (hB:B<=b) (hb:w.heap[b]?=some (.cells (p::v::tl).toArray T (0,0))) (hown:w.ownsRowF B 5 1 v' bs'.length bs') (h0:bs'=[]->v'=.slice none 0 0) :
  BAt T B b p tl bs' (w.setCell ⟨b,1,none⟩ v'):=by
 have hne:=Lib.ownBlock_neF hown hb hT;refine⟨hB,v',?_,?_,hne,h0⟩
 ·simp[World.setCell,Array.getElem?_modify,hb]
 ·exact hown.kept (row:=some b) ⟨rfl,rfl,rfl,by simp[World.setCell],fun k _ hk=>Below.heap_setCell _ _ _ _ (fun e=>hk (by simp[e]))⟩ (Or.inr hne)
theorem BAt.tail (h:BAt T B b p tl bs w) (i:Nat) (x:Value):BAt T B b p (tl.set i x) bs (w.setCell ⟨b,i+2,none⟩ x):=by
 obtain⟨hB,v,hb,hown,hne,h0⟩:=h;refine⟨hB,v,?_,?_,hne,h0⟩
 ·simp[World.setCell,Array.getElem?_modify,hb]
 ·exact hown.kept (row:=some b) ⟨rfl,rfl,rfl,by simp[World.setCell],fun k _ hk=>Below.heap_setCell _ _ _ _ (fun e=>hk (by simp[e]))⟩ (Or.inr hne)
theorem BAt.later {w':World} (h:BAt T B b p tl bs w) (hb':Below w.heap.size w w'):BAt T B b p tl bs w':=by
 have hlt:=h.lt;obtain⟨hB,v,hb,hown,hne,h0⟩:=h;refine⟨hB,v,(hb'.block b hlt).trans hb,hown.kept (row:=none) ⟨hb'.os,hb'.tape,hb'.output,hb'.size,fun k hk _=>hb'.block k hk⟩ ?_,hne,h0⟩;cases hv:v.ownBlock
 ·exact .inl rfl
 ·exact .inr (by simp)
theorem Bld.later {w':World} (h:Bld T B b tl bs w) (hb':Below w.heap.size w w'):Bld T B b tl bs w':=h.elim (fun x=>.inl (x.later hb')) (fun x=>.inr (x.later hb'))
theorem Bld.tail (h:Bld T B b tl bs w) (i:Nat) (x:Value):Bld T B b (tl.set i x) bs (w.setCell ⟨b,i+2,none⟩ x):=h.elim (fun y=>.inl (y.tail i x)) (fun y=>.inr (y.tail i x))
theorem Bld.lt (h:Bld T B b tl bs w):b<w.heap.size:=h.elim BAt.lt BAt.lt
theorem Bld.frozen (h:Bld T B b tl bs w) (i:Nat):w.frozen? ⟨b,i,none⟩=false:=h.elim (fun x=>x.frozen i) (fun x=>x.frozen i)
theorem Bld.cell (h:Bld T B b tl bs w) (i:Nat):w.cell? ⟨b,i+2,none⟩=tl[i]?:=by
 rcases h with ⟨_,v,hb,_⟩ | ⟨_,v,hb,_⟩<;>(rw[Lib.cell_of_heap hb];simp)
theorem kept_of_below {e:TypeId} {o:Option Nat} {w w':World} (h:Below w.heap.size w w'):Lib.OthersKept e o w w':=fun k o hk _ _=>(h.block k (Array.getElem?_eq_some_iff.1 hk).1).trans hk
theorem bld_new (w:World) (T:TypeId) (tl:List Value):Bld T w.heap.size w.heap.size tl [] (w.alloc (.cells (.pointer none::.slice none 0 0::tl).toArray T)) :=
 .inl ⟨Nat.le_refl _,.slice none 0 0,heap_alloc_new w _,World.ownsRowF_nil _ _ _ _,by simp[Value.ownBlock],fun _=>rfl⟩
/-! ### copyCheck -/
theorem copyCheck_used (b:Nat) (w:World) (h0:w.cell? ⟨b,0,none⟩=some (.pointer (some ⟨b,0,none⟩))) :
  Calls Tryz.prog 42 #[.pointer (some ⟨b,0,none⟩)] w fun e w'=>e=.returned (.tuple #[])/\w=w':=by
 obtain⟨j,hj,_⟩:=Option.map_eq_some_iff.1 sizeB;go_enter Tryz.func42,Tryz.ntmps42;go_wp2;rw[Lib.run_neq_ptr_same w _ Tryz.underlying50 hj];go_wp2;go_end0;exact⟨rfl,rfl⟩
theorem copyCheck_fresh {n:Nat} (hT:Emb T n) (b:Nat) (w:World) (h0:w.cell? ⟨b,0,none⟩=some (.pointer none)) (hsh:w.shape? b=some (T,n)) (hn:0<n) (hfz:w.frozen? ⟨b,0,none⟩=false) :
  Calls Tryz.prog 42 #[.pointer (some ⟨b,0,none⟩)] w fun e w'=>e=.returned (.tuple #[])/\w'=w.setCell ⟨b,0,none⟩ (.pointer (some ⟨b,0,none⟩)):=by
 obtain⟨j,hj,hjs⟩:=Option.map_eq_some_iff.1 sizeB;go_enter Tryz.func42,Tryz.ntmps42;go_wp2;rw[Lib.run_to_unsafe w ⟨b,0,none⟩ Tryz.underlying50 Tryz.underlying105 hj (by rw[hjs];decide) hsh hn];simp only[Result.andThen];rw[Oper.upon_value];go_wp2;rw[run_callFunc_extern Tryz.func61 (by kernel_rfl) (by kernel_rfl) (by kernel_rfl) (e:=Extern.AbiNoEscape.same) (by kernel_rfl)];rw[Lib.run_noEscape];simp only[Result.andThen];rw[Oper.upon_value];go_wp2;rw[Lib.run_from_unsafe w ⟨b,0,none⟩ Tryz.underlying105 Tryz.underlying50 hj hsh hT.lies];simp only[Result.andThen];rw[Oper.upon_value];go_wp2;go_end0;exact⟨rfl,rfl⟩
theorem copyCheck_any (hT:Emb T (tl.length+2)) (h:Bld T B b tl bs w) :
  Calls Tryz.prog 42 #[.pointer (some ⟨b,0,none⟩)] w fun e w'=>e=.returned (.tuple #[])/\(BAt T B b (.pointer (some ⟨b,0,none⟩)) tl bs w'/\Below B w w'/\Lib.OthersKept 5 (some b) w w'):=by
 rcases h with h | h
 ·refine(copyCheck_fresh hT b w h.cell0 h.shape (by omega) (h.frozen 0)).mono ?_;rintro e w' ⟨rfl,rfl⟩;exact⟨rfl,h.used _,(Below.refl B w).setCell (p:=⟨b,0,none⟩) h.1 _,(Lib.OthersKept.refl _ _ w).setCell ⟨b,0,none⟩ rfl _⟩
 ·refine(copyCheck_used b w h.cell0).mono ?_;rintro e w' ⟨rfl,rfl⟩;exact⟨rfl,h,Below.refl B _,Lib.OthersKept.refl _ _ _⟩
/-! ### WriteString, WriteByte -/
set_option maxHeartbeats 2000000 in
theorem writeString_any (hT:Emb T (tl.length+2)) (s:ByteArray) (h:Bld T B b tl bs w) (hlen:bs.length+s.size<=140737488355328) (hBw:B<=w.heap.size) :
  Calls Tryz.prog 23 #[.pointer (some ⟨b,0,none⟩),.string s] w fun e w'=>e=.returned (.tuple #[.int .i64 s.size,.nilIface])/\(Bld T B b tl (bs++Lib.strCells s) w'/\Below B w w'/\Lib.OthersKept 5 (some b) w w'):=by
 obtain⟨i0,hi,hz0,hz1,hz2⟩:=info_parts Tryz.info5;have HT:Hid (T≠5):=hT.ne;have HC:Hid (Calls Tryz.prog 42 #[.pointer (some ⟨b,0,none⟩)] w fun e w'=>e=.returned (.tuple #[])/\(BAt T B b (.pointer (some ⟨b,0,none⟩)) tl bs w'/\Below B w w'/\Lib.OthersKept 5 (some b) w w')):=copyCheck_any hT h;clear h hT;go_enter Tryz.func23,Tryz.ntmps23;go_wp2_with (go_at_call 42;refine HC.out.mono ?_);rintro e w1 ⟨rfl,h1,hb1,hk1⟩;obtain⟨hB,v,hbk,hown,hne,hv0⟩:=h1;have c0:w1.cell? ⟨b,0,none⟩=some (.pointer (some ⟨b,0,none⟩)):=by rw[Lib.cell_of_heap hbk];rfl
 have c1:w1.cell? ⟨b,1,none⟩=some v:=by rw[Lib.cell_of_heap hbk];rfl
 go_wp2_with (at_builtin;refine Lib.wpList_append_own_stringF _ rfl _ _ 51 9 rfl B 5 i0 Tryz.underlying51 Tryz.underlying9 hi hz0 hz1 hz2 _ _ _ rfl hown s rfl ?c3 ?c4 ?c5 ?_)
 case c3=>unfold maxLen;omega
 case c4=>omega
 case c5=>have:=hb1.size;omega
 intro v' w2 hown' hgrow hnil;have hlt:b<w1.heap.size:=(Array.getElem?_eq_some_iff.1 hbk).1
 have hb2:w2.heap[b]?=some (.cells (.pointer (some ⟨b,0,none⟩)::v::tl).toArray T (0,0)):=by
  rw[hgrow.block b hlt (fun e=>hne e.symm)];exact hbk
 have d1:w2.cell? ⟨b,1,none⟩=some v:=by rw[Lib.cell_of_heap hb2];rfl
 have f1:w2.frozen? ⟨b,1,none⟩=false:=Lib.frozen_of_heap hb2 1
 have HX:Hid (Bld T B b tl (bs++Lib.strCells s) (w2.setCell ⟨b,1,none⟩ v')):=.inr (BAt.put HT.out hB hb2 (by simpa [Lib.strCells_length]using hown') (by
  intro h;rw[List.append_eq_nil_iff]at h;have hs0:s.size=0:=by have:=Lib.strCells_length s;rw[h.2]at this;simpa using this.symm
  exact hnil.2 ⟨hv0 h.1,by simpa using hs0⟩))
 have HB:Hid (Below B w (w2.setCell ⟨b,1,none⟩ v')):=(hb1.grown hgrow (by have:=hb1.size;omega) (fun k hk=>(hown.lt k hk).1)).setCell (p:=⟨b,1,none⟩) hB _;have HK:Hid (Lib.OthersKept 5 (some b) w (w2.setCell ⟨b,1,none⟩ v')):=(hk1.grown hgrow (Lib.ownsRowF_kind hown)).setCell ⟨b,1,none⟩ rfl _
 obtain⟨ao,n',cap,rfl⟩:∃ ao n' cap,v'=.slice ao n' cap:=by
  rcases hown'.2 with ⟨hv,_⟩ | ⟨g,cap,cur,fz,hv,_⟩
  ·exact⟨_,_,_,hv⟩
  ·exact⟨_,_,_,hv⟩
 clear hown hown' hgrow hk1 hb1 hv0 hnil hbk hb2 c0 c1;go_wp2;go_ret2;exact⟨rfl,HX.out,HB.out,HK.out⟩
set_option maxHeartbeats 2000000 in
theorem writeByte_any (hT:Emb T (tl.length+2)) (c:Int) (h:Bld T B b tl bs w) (hlen:bs.length+1<=140737488355328) (hBw:B<=w.heap.size) :
  Calls Tryz.prog 67 #[.pointer (some ⟨b,0,none⟩),.int .u8 c] w fun e w'=>e=.returned .nilIface/\(Bld T B b tl (bs++[.int .u8 c]) w'/\Below B w w'/\Lib.OthersKept 5 (some b) w w'):=by
 obtain⟨i0,hi,hz0,hz1,hz2⟩:=info_parts Tryz.info5;have HT:Hid (T≠5):=hT.ne;have HC:Hid (Calls Tryz.prog 42 #[.pointer (some ⟨b,0,none⟩)] w fun e w'=>e=.returned (.tuple #[])/\(BAt T B b (.pointer (some ⟨b,0,none⟩)) tl bs w'/\Below B w w'/\Lib.OthersKept 5 (some b) w w')):=copyCheck_any hT h;clear h hT;go_enter Tryz.func67,Tryz.ntmps67;go_wp2_with (go_at_call 42;refine HC.out.mono ?_);rintro e w1 ⟨rfl,h1,hb1,hk1⟩;obtain⟨hB,v,hbk,hown,hne,hv0⟩:=h1;have c0:w1.cell? ⟨b,0,none⟩=some (.pointer (some ⟨b,0,none⟩)):=by rw[Lib.cell_of_heap hbk];rfl
 have c1:w1.cell? ⟨b,1,none⟩=some v:=by rw[Lib.cell_of_heap hbk];rfl
 go_wp2_with (at_builtin;refine wpList_append_ownF _ rfl _ _ 51 rfl B 5 i0 (.int .u8 0) 1 1 Tryz.underlying51 hi hz0 hz1 hz2 rfl (by decide) _ _ _ rfl (hown.alloc _) ⟨w1.heap.size,0,none⟩ 1 1 [.int .u8 c] rfl rfl ?c1 ?c2 ?c3 ?c4 ?c5 ?_)
 case c1 =>
  intro j u hj
  match j,hj with
  | 0,hj=>simp at hj;subst hj;simp[Addr.add]
 case c2=>intro u hu;simp at hu;subst hu;rfl
 case c3=>unfold maxLen;omega
 case c4=>omega
 case c5=>have:=hb1.size;simp;omega
 intro v' w2 hown' hgrow _;have hlt:b<w1.heap.size:=(Array.getElem?_eq_some_iff.1 hbk).1
 have hb2:w2.heap[b]?=some (.cells (.pointer (some ⟨b,0,none⟩)::v::tl).toArray T (0,0)):=by
  rw[hgrow.block b (by simp;omega) (fun e=>hne e.symm),Lib.alloc_old w1 _ b hlt];exact hbk
 have d1:w2.cell? ⟨b,1,none⟩=some v:=by rw[Lib.cell_of_heap hb2];rfl
 have f1:w2.frozen? ⟨b,1,none⟩=false:=Lib.frozen_of_heap hb2 1;have HX:Hid (Bld T B b tl (bs++[.int .u8 c]) (w2.setCell ⟨b,1,none⟩ v')):=.inr (BAt.put HT.out hB hb2 (by simpa using hown') (by intro h;simp at h));have HB:Hid (Below B w (w2.setCell ⟨b,1,none⟩ v')):=((hb1.alloc (by have:=hb1.size;omega) _).grown hgrow (by have:=hb1.size;simp;omega) (fun k hk=>(hown.lt k hk).1)).setCell (p:=⟨b,1,none⟩) hB _;have HK:Hid (Lib.OthersKept 5 (some b) w (w2.setCell ⟨b,1,none⟩ v')):=((hk1.alloc _).grown hgrow (Lib.ownsRowF_kind (hown.alloc _))).setCell ⟨b,1,none⟩ rfl _
 obtain⟨g,cap,rfl⟩:∃ g cap,v'=.slice (some ⟨g,0,none⟩) (bs.length+1) cap:=by
  rcases hown'.2 with ⟨_,h0⟩ | ⟨g,cap,cur,fz,hv,_⟩
  ·omega
  ·exact⟨g,cap,hv⟩
 clear hown hown' hgrow hk1 hb1 hv0 hbk hb2 c0 c1;go_wp2;go_ret;exact⟨rfl,HX.out,HB.out,HK.out⟩
/-! ### String -/
theorem cells_len (l:List UInt8):(Lib.byteCells l).length=l.length:=Lib.byteCells_length l
set_option maxHeartbeats 2000000 in
theorem string_empty (h:Bld T B b tl [] w) :
  Calls Tryz.prog 16 #[.pointer (some ⟨b,0,none⟩)] w fun e w'=>e=.returned (.string ⟨#[]⟩)/\(Bld T B b tl [] w'/\Below w.heap.size w w'):=by
 have hd:Bld T B b tl [] w.drew:=h.later (Below.drew (Below.refl _ w))
 have c1:w.drew.cell? ⟨b,1,none⟩=some (.slice none 0 0):=by
  rcases h with ⟨_,v,hb,_,_,h0⟩ | ⟨_,v,hb,_,_,h0⟩<;>(rw[h0 rfl]at hb;have hb':w.drew.heap[b]?=_:=hb;rw[Lib.cell_of_heap hb'];rfl)
 have hSD:(Builtin.unsafeSliceData_ #[51] 74 #[.slice none 0 0]).run Tryz.prog w.drew=.ok (.pointer none) w.drew:=rfl;have hUS:(Builtin.unsafeString_ #[74,3] 9 #[.pointer none,.int .i64 0]).run Tryz.prog w.drew=.ok (.string ⟨#[]⟩) w.drew:=rfl;have HD:Hid (Bld T B b tl [] w.drew):=hd;clear h hd;go_enter Tryz.func16,Tryz.ntmps16;go_wp2;go_region
 all_goals (go_wp2;go_ret;exact⟨rfl,HD.out,Below.drew (Below.refl _ w)⟩)
set_option maxHeartbeats 2000000 in
theorem string_some (l:List UInt8) (h:Bld T B b tl (Lib.byteCells l) w) (h0:l≠[]) :
  Calls Tryz.prog 16 #[.pointer (some ⟨b,0,none⟩)] w fun e w'=>e=.returned (.string ⟨l.toArray⟩)/\(Bld T B b tl (Lib.byteCells l) w'/\Below B w w'/\Lib.OthersKept 5 (some b) w w'):=by
 obtain⟨p,hp,hAt⟩:∃ p,(p=.pointer none\/p=.pointer (some ⟨b,0,none⟩))/\BAt T B b p tl (Lib.byteCells l) w:=by
  rcases h with h | h
  ·exact⟨_,.inl rfl,h⟩
  ·exact⟨_,.inr rfl,h⟩
 obtain⟨hB,v,hbk,hown,hne,hv0⟩:=hAt;have hl0:l.length≠0:=by simpa using h0
 have hown2:=hown;rw[Lib.byteCells_length]at hown
 obtain⟨g,cap,cur,fz,rfl,hbg,hg,hfz,hnc,hcm,hcs,htake⟩:∃ g cap cur fz,v=.slice (some ⟨g,0,none⟩) l.length cap/\B<=g/\w.heap[g]?=some (.cells cur 5 fz)/\fz.2<=l.length*1/\l.length<=cap/\cap<=maxLen/\cur.size=cap*1/\cur.toList.take (l.length*1)=Lib.byteCells l:=by
  rcases hown.2 with ⟨_,hz⟩ | ⟨g,cap,cur,fz,hv,r⟩
  ·exact absurd hz hl0
  ·exact⟨g,cap,cur,fz,hv,r⟩
 have c1:w.drew.cell? ⟨b,1,none⟩=some (.slice (some ⟨g,0,none⟩) l.length cap):=by
  have:w.drew.heap[b]?=some (.cells (p::.slice (some ⟨g,0,none⟩) l.length cap::tl).toArray T (0,0)):=hbk;rw[Lib.cell_of_heap this];rfl
 have hSD:(Builtin.unsafeSliceData_ #[51] 74 #[.slice (some ⟨g,0,none⟩) l.length cap]).run Tryz.prog w.drew=.ok (.pointer (some ⟨g,0,none⟩)) w.drew :=
  Lib.run_unsafeSliceData_row _ _ _ _ _ _ (by omega)
 have hUS:(Builtin.unsafeString_ #[74,3] 9 #[.pointer (some ⟨g,0,none⟩),.int .i64 l.length]).run Tryz.prog w.drew=.ok (.string ⟨l.toArray⟩) (w.drew.freeze ⟨g,0,none⟩ l.length):=by
  refine Lib.run_unsafeString_row w.drew 74 3 9 5 Tryz.underlying74 (by kernel_rfl) g cur.size (by have hg':w.drew.heap[g]?=some (.cells cur 5 fz):=hg;simp[World.shape?,hg']) l h0 (by omega) (by unfold maxLen at hcm;omega) ?_;intro j x hx;have:=hown.cells (g:=g) rfl j (.int .u8 x.toNat) (by simp[Lib.byteCells,hx]);exact this
 have hgb:g≠b:=fun e=>hne (by simp[Value.ownBlock,e])
 have hA:BAt T B b p tl (Lib.byteCells l) (w.drew.freeze ⟨g,0,none⟩ l.length):=by
  unfold World.freeze;rw[if_neg hl0];obtain⟨lo,hi'⟩:=fz;refine⟨hB,_,?_,⟨hown2.1,.inr ⟨g,cap,cur,(if lo==hi' then (0,0+l.length)else (min lo 0,max hi' (0+l.length))),?_,hbg,?_,?_,?_,hcm,hcs,?_⟩⟩,hne,hv0⟩
  ·simp only[Array.getElem?_modify];rw[if_neg hgb];exact hbk
  ·rw[Lib.byteCells_length]
  ·have hg':w.drew.heap[g]?=some (.cells cur 5 (lo,hi')):=hg;simp[Array.getElem?_modify,hg']
  ·simp only at hfz;rw[Lib.byteCells_length];split<;>simp<;>omega
  ·rw[Lib.byteCells_length];exact hnc
  ·rw[Lib.byteCells_length];exact htake
 have HK:Hid (Bld T B b tl (Lib.byteCells l) (w.drew.freeze ⟨g,0,none⟩ l.length)):=by
  rcases hp with rfl | rfl
  ·exact .inl hA
  ·exact .inr hA
 have HO:Hid (Lib.OthersKept 5 (some b) w (w.drew.freeze ⟨g,0,none⟩ l.length)):=((Lib.OthersKept.refl _ _ w).drew).freeze ⟨g,0,none⟩ _ ⟨cur,fz,hg⟩;have HB:Hid (Below B w (w.drew.freeze ⟨g,0,none⟩ l.length)):=Lib.below_freeze (Below.drew (Below.refl B w)) (p:=⟨g,0,none⟩) hbg _;clear h hA hown hown2 hbk hg htake hv0 hne;go_enter Tryz.func16,Tryz.ntmps16;go_wp2;go_region
 all_goals (go_wp2;go_ret;exact⟨rfl,HK.out,HB.out,HO.out⟩)
theorem string_any (l:List UInt8) (h:Bld T B b tl (Lib.byteCells l) w) (hBw:B<=w.heap.size) :
  Calls Tryz.prog 16 #[.pointer (some ⟨b,0,none⟩)] w fun e w'=>e=.returned (.string (mk l))/\(Bld T B b tl (Lib.byteCells l) w'/\Below B w w'/\Lib.OthersKept 5 (some b) w w'):=by
 by_cases h0:l=[]
 ·subst h0;refine(string_empty h).mono ?_;rintro e w' ⟨rfl,h1,h2⟩;exact⟨rfl,h1,h2.mono hBw,kept_of_below h2⟩
 ·exact string_some l h h0
end Quo
end Go.Proofs.YtidhpmcmbooaoaaGreatDoor
