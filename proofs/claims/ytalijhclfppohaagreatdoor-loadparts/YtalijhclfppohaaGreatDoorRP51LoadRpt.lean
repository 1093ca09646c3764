/- . -/
import Derived.Test.YtalijhclfppohaaGreatDoorRP50LoadOne
import Derived.Deep.Cut
import Derived.Maps.AppendAt
import Derived.Deep.Upon
set_option linter.unusedSimpArgs false
set_option linter.unusedVariables false
set_option maxRecDepth 100000
namespace Go.Proofs.YtalijhclfppohaaGreatDoor
namespace Lod
open Utf Rws Pln Flw Tre
open Go.RowKit
open Blk (Rw RwAt z3)
set_option maxHeartbeats 4000000
theorem rmark_any (c:Int) (x:Ln) (z:Int) (w:World):Calls Tryz.prog 19 #[rV c x z] w fun e w'=>e=.returned (.bool (mkr (c,x,z)))/\Below w.heap.size w w':=by
 have hE:((mk x).toList==[45,45,45])=(x==[45,45,45]):=by rw[ByteArray.toList_eq,mk_data]
 by_cases hc:c=0
 ·subst hc;have HV:Hid (mkr (0,x,z)=(x==[45,45,45])):=by unfold mkr;simp[Hid]
  cases hx:x==[45,45,45]
  all_goals
   rw[hx]at hE HV;go_enter Tryz.func19,Tryz.ntmps19;go_wp2;go_ret;exact⟨by rw[HV.out];rfl,below_alloc _ _⟩
 ·have hb:(c==0)=false:=by simpa using hc
  have HV:Hid (mkr (c,x,z)=false):=by unfold mkr;simp[Hid,hb]
  clear hc;go_enter Tryz.func19,Tryz.ntmps19;go_wp2;go_ret;exact⟨by rw[HV.out];rfl,below_alloc _ _⟩
theorem filled_any (a:Option Addr) (len cap:Nat) (R:List Rw) (w:World) (h:Tre.RowsIn w a len cap R):Calls Tryz.prog 20 #[.slice a len cap] w fun e w'=>e=.returned (.bool (R.any ful))/\Below w.heap.size w w':=by
 have HR5:Hid (Tre.RowsIn w a len cap R):=h;have hcl:len<=cap:=h.2.1;have hcm:cap<=9223372036854775807:=h.2.2.1;have HLn:Hid (len=R.length):=h.1.1;obtain⟨V,HV⟩:∃ V,Hid (V=R.any ful):=⟨_,rfl⟩;rw[<-HV.out];clear h;go_enter Tryz.func20,Tryz.ntmps20;go_wp2_with fail
 go_loopw [3] (fun ui wr=>∃ j:Nat,j<=len/\ui=.int .i64 (j:Int)/\Hid (Below w.heap.size w wr/\(R.take j).any ful=false)) (fun ui _=>len-(intOf ui).toNat)
 case atStart=>exact⟨0,Nat.zero_le _,rfl,Below.refl _ _,rfl⟩
 case round =>
  obtain⟨j,hj,rfl,HL⟩:=hrel;by_cases hlt:j<len
  ·obtain⟨b,off,rfl,hb,hcell⟩:=HR5.out.1.2 (by omega);obtain⟨x0,x1,x2⟩:=hcell j hlt;have hjr:j<R.length:=by have:=HLn.out;omega
   replace x0:=(HL.out.1.cell (p:=⟨b,off+j*3,none⟩) hb).trans x0;replace x1:=(HL.out.1.cell (p:=⟨b,off+j*3+1,none⟩) hb).trans x1;replace x2:=(HL.out.1.cell (p:=⟨b,off+j*3+2,none⟩) hb).trans x2;have HSF:Hid ((R.take (j+1)).any ful=((R.take j).any ful || ful (R.getD j z3))):=any_snoc ful hjr
   have HVT:Hid (ful (R.getD j z3)=true->V=true):=fun h=>by
    rw[HV.out];exact List.any_eq_true.2 ⟨_,getD_memR hjr,h⟩
   have hj0:(0:Int)<=(j:Int):=by omega
   have hj1:(j:Int)<(len:Int):=by omega
   obtain⟨rc,rt,rz,HRJ⟩:∃ rc rt rz,Hid (R.getD j z3=(rc,rt,rz)):=⟨_,_,_,rfl⟩;rw[HRJ.out]at x0 x1 x2 HSF HVT;have HEM:Hid (∀ W,Calls Tryz.prog 21 #[.agg #[.int .i64 rc,.string (mk rt),.int .i64 rz]] W fun e w'=>e=.returned (.bool (noth rt))/\Below W.heap.size W w'):=fun W=>rEmp_any rc rz rt W
   have HB1:Hid (Below w.heap.size w wr/\(R.take j).any ful=false):=HL;have HNF:Hid (ful (rc,rt,rz)= !noth rt):=rfl;clear hcell hjr HL HRJ;cases hn:noth rt
   ·rw[hn]at HEM HNF;have HV1:Hid (V=true):=HVT.out (by rw[HNF.out];rfl);clear HVT HSF HNF hn;go_wp2_with (go_at_call 21;refine(HEM.out _).mono ?_;rintro e w3 ⟨rfl,hb3⟩);go_ret;rw[HV1.out];exact⟨rfl,HB1.out.1.trans (hb3.mono HB1.out.1.size)⟩
   ·rw[hn]at HEM HNF
    have HN1:Hid ((R.take (j+1)).any ful=false):=by
     show _=_;rw[HSF.out,HB1.out.2,HNF.out];rfl
    clear HVT HSF HNF hn;go_wp2_with (go_at_call 21;refine(HEM.out _).mono ?_;rintro e w3 ⟨rfl,hb3⟩);go_roundw
    case rel=>exact⟨j+1,by omega,by go_num,HB1.out.1.trans (hb3.mono HB1.out.1.size),HN1.out⟩
    case measure=>(simp[intOf]<;>omega)
  ·have HV0:Hid (V=false):=by
    show _=_;have:=HL.out.2;rw[List.take_of_length_le (by have:=HLn.out;omega)]at this;rw[HV.out,this]
   have HB:Hid (Below w.heap.size w wr):=HL.out.1;have e:j=len:=by omega
   subst e;clear HL HR5;go_wp2_with fail;go_ret;rw[HV0.out];exact⟨rfl,HB.out⟩
theorem own_bel {base:Nat} {e:TypeId} {size:Nat} {v:Value} {n:Nat} {xs:List Value} {W W':World} (h:W.ownsRow base e size v n xs) (hb:Below W.heap.size W W'):W'.ownsRow base e size v n xs :=
 h.kept (grown_of_below hb) (by cases v.ownBlock with | none=>exact .inl rfl | some k=>exact .inr (by simp))
def RsB (W:World) (vs:List Value) (ds:List (List Rw)):Prop:=vs.length=ds.length/\∀ i,i<ds.length->∃ a c,vs[i]?=some (.slice a (ds.getD i []).length c)/\Tre.RowsIn W a (ds.getD i []).length c (ds.getD i [])
theorem RsB.later {W W':World} {vs:List Value} {ds:List (List Rw)} (h:RsB W vs ds) (hb:Below W.heap.size W W'):RsB W' vs ds:=⟨h.1,fun i hi=>by obtain⟨a,c,h1,h2⟩:=h.2 i hi;exact⟨a,c,h1,h2.later hb⟩⟩
theorem RsB.nil (W:World):RsB W [] []:=⟨rfl,fun i hi=>absurd hi (Nat.not_lt_zero _)⟩
theorem RsB.snoc {W:World} {vs:List Value} {ds:List (List Rw)} {a:Option Addr} {n c:Nat} {d:List Rw} (h:RsB W vs ds) (hd:Tre.RowsIn W a n c d):RsB W (vs++[.slice a n c]) (ds++[d]):=by
 have hn:n=d.length:=hd.1.1;subst hn;refine⟨by rw[List.length_append,List.length_append,h.1];rfl,fun i hi=> ?_⟩;rw[List.length_append,List.length_singleton]at hi;by_cases hlt:i<ds.length
 ·obtain⟨a',c',h1,h2⟩:=h.2 i hlt;have e:(ds++[d]).getD i []=ds.getD i []:=by rw[List.getD_eq_getElem?_getD,List.getElem?_append_left hlt,<-List.getD_eq_getElem?_getD]
  rw[e];exact⟨a',c',by rw[List.getElem?_append_left (by rw[h.1];exact hlt)];exact h1,h2⟩
 ·have e:i=ds.length:=by omega
  subst e;have e:(ds++[d]).getD ds.length []=d:=by rw[List.getD_eq_getElem?_getD,List.getElem?_append_right (Nat.le_refl _),Nat.sub_self];rfl
  rw[e];exact⟨a,c,by rw[List.getElem?_append_right (by rw[h.1];exact Nat.le_refl _),h.1,Nat.sub_self];rfl,hd⟩
theorem Tryz.infoRws:(Tryz.prog.info? 22).map (fun i=>(i.zero,i.size,i.bytes))=some (some (.slice none 0 0),1,24):=by kernel_rfl
def PtsRes (ds:List (List Rw)) (w:World) (e:Ending) (w':World):Prop:=∃ (v:Value) (vs:List Value),e=.returned v/\Hid (w'.ownsRow w.heap.size 22 1 v ds.length vs/\RsB w' vs ds)/\Hid (Below w.heap.size w w')
theorem rparts_core (a:Option Addr) (len cap:Nat) (R:List Rw) (w:World) (h:Tre.RowsIn w a len cap R) (hl:len<=100000):Calls Tryz.prog 9 #[.slice a len cap] w (PtsRes (dpL R) w):=by
 have HR:Hid (Tre.RowsIn w a len cap R):=h;have hcl:len<=cap:=h.2.1;have hcm:cap<=9223372036854775807:=h.2.2.1;have HLn:Hid (len=R.length):=h.1.1;obtain⟨it,hi,hz0,hz1,hz2⟩:=info_parts Tryz.infoRws;clear h;go_enter Tryz.func9,Tryz.ntmps9;go_wp2_with fail
 go_loopw [3,4,5] (fun uo uf ui wr=>∃ (i f:Nat) (out:List (List Rw)) (vs:List Value),ui=.int .i64 (i:Int)/\uf=.int .i64 (f:Int)/\i<=len+1/\f<=i/\out.length<=i/\Hid (PrI R i f out/\(i=len+1->f=len+1))/\Hid (wr.ownsRow w.heap.size 22 1 uo out.length vs/\RsB w vs out)/\Hid (Below w.heap.size w wr)) (fun _ _ ui _=>len+1-(intOf ui).toNat)
 case atStart=>exact⟨0,0,[],[],rfl,rfl,Nat.zero_le _,Nat.le_refl _,Nat.le_refl _,⟨PrI.start R,fun h=>absurd h (by omega)⟩,⟨World.ownsRow_nil _ _ _ _,RsB.nil _⟩,Below.refl _ _⟩
 case round =>
  obtain⟨i,f,out,vs,rfl,rfl,hi1,hf1,ho1,HP,HO,HB⟩:=hrel;have hr5:Hid (Tre.RowsIn wr a len cap R):=HR.out.later HB.out;have hi0:(0:Int)<=(i:Int):=by omega
  have hf0:(0:Int)<=(f:Int):=by omega
  have hfi:(f:Int)<=(i:Int):=by omega
  have hbi:(i:Int)<=9223372036854775806:=by omega
  by_cases hle:i<=len
  ·have HF:Hid (∀ W,Below w.heap.size w W->Calls Tryz.prog 20 #[.slice a i cap] W fun e w'=>e=.returned (.bool ((R.take i).any ful))/\Below W.heap.size W w'):=fun W h=>filled_any a i cap (R.take i) W ((rowsIn_take HR.out i hle).later h)
   by_cases hlt:i<len
   ·obtain⟨b,off,rfl,hb,hcell⟩:=hr5.out.1.2 (by omega);obtain⟨x0,x1,x2⟩:=hcell i hlt;obtain⟨rc,rt,rz,HRJ⟩:∃ rc rt rz,Hid (R.getD i z3=(rc,rt,rz)):=⟨_,_,_,rfl⟩;rw[HRJ.out]at x0 x1 x2;have hj1:(i:Int)<(len:Int):=by omega
    have HM:Hid (∀ W,Calls Tryz.prog 19 #[.agg #[.int .i64 rc,.string (mk rt),.int .i64 rz]] W fun e w'=>e=.returned (.bool (mkr (rc,rt,rz)))/\Below W.heap.size W w'):=fun W=>rmark_any rc rt rz W
    clear hcell;cases hm:mkr (rc,rt,rz)
    ·rw[hm]at HM;have HP1:Hid (PrI R (i+1) f out):=HP.out.1.skip (by have:=HLn.out;omega) (by rw[HRJ.out];exact hm);clear hm HRJ;go_wp2_with (go_at_call 19;refine(HM.out _).mono ?_;rintro e w3 ⟨rfl,hb3⟩);go_roundw
     case rel=>exact⟨i+1,f,out,vs,by go_num,rfl,by omega,by omega,by omega,⟨HP1.out,fun h=>absurd h (by omega)⟩,⟨own_bel HO.out.1 hb3,HO.out.2⟩,HB.out.trans (hb3.mono HB.out.size)⟩
     case measure=>(simp[intOf]<;>omega)
    ·rw[hm]at HM;have HC:Hid (i=R.length\/(i<R.length/\mkr (R.getD i z3)=true)):=.inr ⟨by have:=HLn.out;omega,by rw[HRJ.out];exact hm⟩;clear hm HRJ
     obtain⟨SA,hSA,HD⟩:∃ SA:Option Addr,SA=some ⟨b,off+f*3,none⟩/\Hid (Tre.RowsIn w SA (i-f) (cap-f) ((R.drop f).take (i-f))):=by
      refine⟨_,rfl,?_⟩;have:=rowsIn_take (rowsIn_drop HR.out f (by omega)) (i-f) (by omega);rw[if_neg (by omega),Option.map_some,Blk.add_plain]at this;exact this
     by_cases hfz:0<f
     ·have hfz0:(0:Int)<(f:Int):=by omega
      have HN:Hid (PrI R (i+1) (i+1) (out++[(R.drop f).take (i-f)])):=HP.out.1.take HC.out (.inl hfz);go_wp2_with (first | (go_at_call 19;refine(HM.out _).mono ?_;rintro e wm ⟨rfl,hb3⟩;have HB1:Hid (Below w.heap.size w wm):=HB.out.trans (hb3.mono HB.out.size);have HO1:Hid (wm.ownsRow w.heap.size 22 1 _ out.length vs):=own_bel HO.out.1 hb3) | (at_builtin;refine wpList_append_own _ rfl _ _ 24 rfl w.heap.size 22 it (.slice none 0 0) 1 24 Tryz.underlying24 hi hz0 hz1 hz2 rfl (by decide) _ _ _ rfl (HO1.out.alloc _) ⟨wm.heap.size,0,none⟩ 1 1 [Value.slice (some ⟨b,off+f*3,none⟩) (i-f) (cap-f)] rfl rfl (cell_one_new _ _ _) (fun u hu=>by rw[List.mem_singleton.1 hu];rfl) (by unfold maxLen;omega) (by omega) (by have:=HB1.out.size;rw[World.size_alloc];omega) ?_;intro v4 w4 hown4 hgrow4 _;have hb4:Hid (Below w.heap.size w w4):=(HB1.out.alloc HB1.out.size _).grown hgrow4 (by have:=HB1.out.size;rw[World.size_alloc];omega) (fun k hk=>(HO1.out.lt k hk).1)));rw[<-hSA]at hown4;go_roundw
      case rel=>exact⟨i+1,i+1,out++[(R.drop f).take (i-f)],_,by go_num,by go_num,by omega,by omega,by rw[List.length_append,List.length_singleton];omega,⟨HN.out,fun h=>h⟩,⟨by rw[List.length_append,List.length_singleton];exact hown4,HO.out.2.snoc HD.out⟩,hb4.out⟩
      case measure=>(simp[intOf]<;>omega)
     ·have hf00:f=0:=by omega
      subst hf00;cases hq:(R.take i).any ful
      ·have HN:Hid (PrI R (i+1) (i+1) out):=HP.out.1.pass HC.out rfl hq;rw[hq]at HF;go_wp2_with (first | (go_at_call 19;refine(HM.out _).mono ?_;rintro e wm ⟨rfl,hb3⟩;have HB1:Hid (Below w.heap.size w wm):=HB.out.trans (hb3.mono HB.out.size);have HO1:Hid (wm.ownsRow w.heap.size 22 1 _ out.length vs):=own_bel HO.out.1 hb3) | (go_at_call 20;refine(HF.out _ HB1).mono ?_;rintro e w3 ⟨rfl,hb5⟩;have HB2:Hid (Below w.heap.size w w3):=HB1.out.trans (hb5.mono HB1.out.size);have HO2:Hid (w3.ownsRow w.heap.size 22 1 _ out.length vs):=own_bel HO1.out hb5));go_roundw
       case rel=>exact⟨i+1,i+1,out,vs,by go_num,by go_num,by omega,by omega,by omega,⟨HN.out,fun h=>h⟩,⟨HO2.out,HO.out.2⟩,HB2.out⟩
       case measure=>(simp[intOf]<;>omega)
      ·have HN:Hid (PrI R (i+1) (i+1) (out++[R.take i])):=by have:=HP.out.1.take HC.out (.inr hq);rw[List.drop_zero,Nat.sub_zero]at this;exact this
       rw[hq]at HF;go_wp2_with (first | (go_at_call 19;refine(HM.out _).mono ?_;rintro e wm ⟨rfl,hb3⟩;have HB1:Hid (Below w.heap.size w wm):=HB.out.trans (hb3.mono HB.out.size);have HO1:Hid (wm.ownsRow w.heap.size 22 1 _ out.length vs):=own_bel HO.out.1 hb3) | (go_at_call 20;refine(HF.out _ HB1).mono ?_;rintro e w3 ⟨rfl,hb5⟩;have HB2:Hid (Below w.heap.size w w3):=HB1.out.trans (hb5.mono HB1.out.size);have HO2:Hid (w3.ownsRow w.heap.size 22 1 _ out.length vs):=own_bel HO1.out hb5) | (at_builtin;refine wpList_append_own _ rfl _ _ 24 rfl w.heap.size 22 it (.slice none 0 0) 1 24 Tryz.underlying24 hi hz0 hz1 hz2 rfl (by decide) _ _ _ rfl (HO2.out.alloc _) ⟨w3.heap.size,0,none⟩ 1 1 [Value.slice (some ⟨b,off,none⟩) i cap] rfl rfl (cell_one_new _ _ _) (fun u hu=>by rw[List.mem_singleton.1 hu];rfl) (by unfold maxLen;omega) (by omega) (by have:=HB2.out.size;rw[World.size_alloc];omega) ?_;intro v4 w4 hown4 hgrow4 _;have hb4:Hid (Below w.heap.size w w4):=(HB2.out.alloc HB2.out.size _).grown hgrow4 (by have:=HB2.out.size;rw[World.size_alloc];omega) (fun k hk=>(HO2.out.lt k hk).1)));go_roundw
       case rel=>exact⟨i+1,i+1,out++[R.take i],_,by go_num,by go_num,by omega,by omega,by rw[List.length_append,List.length_singleton];omega,⟨HN.out,fun h=>h⟩,⟨by rw[List.length_append,List.length_singleton];exact hown4,HO.out.2.snoc (rowsIn_take HR.out i hle)⟩,hb4.out⟩
       case measure=>(simp[intOf]<;>omega)
   ·have hil:i=len:=by omega
    subst hil;have HC:Hid (i=R.length\/(i<R.length/\mkr (R.getD i z3)=true)):=.inl HLn.out;by_cases hl0:i=0
    ·subst hl0;have hf00:f=0:=by omega
     subst hf00;have HF2:(R.take 0).any ful=false:=rfl;rw[HF2]at HF;have HN:Hid (PrI R (0+1) (0+1) out):=HP.out.1.pass HC.out rfl rfl;go_wp2_with (first | (go_at_call 20;refine(HF.out _ HB).mono ?_;rintro e w3 ⟨rfl,hb5⟩;have HB2:Hid (Below w.heap.size w w3):=HB.out.trans (hb5.mono HB.out.size);have HO2:Hid (w3.ownsRow w.heap.size 22 1 _ out.length vs):=own_bel HO.out.1 hb5));go_roundw
     case rel=>exact⟨0+1,0+1,out,vs,by go_num,by go_num,by omega,by omega,by omega,⟨HN.out,fun h=>h⟩,⟨HO2.out,HO.out.2⟩,HB2.out⟩
     case measure=>(simp[intOf]<;>omega)
    ·obtain⟨b,off,rfl,hb,hcell⟩:=hr5.out.1.2 (by omega);clear hcell;by_cases hcf:cap=f
     ·have e1:i=f:=by omega
      have e2:i=cap:=by omega
      subst e1;subst e2
      obtain⟨SA,hSA,HD⟩:∃ SA:Option Addr,SA=some ⟨b,off,none⟩/\Hid (Tre.RowsIn w SA 0 0 ((R.drop i).take (i-i))):=by
       refine⟨_,rfl,?_⟩;rw[Nat.sub_self,List.take_zero];exact⟨⟨rfl,fun h=>absurd h (by omega)⟩,Nat.le_refl _,Nat.zero_le _,fun r hr=>by cases hr⟩
      have hfz:0<i:=by omega
      have hfz0:(0:Int)<(i:Int):=by omega
      have HN:Hid (PrI R (i+1) (i+1) (out++[(R.drop i).take (i-i)])):=HP.out.1.take HC.out (.inl hfz);go_wp2_with (first | (at_builtin;refine wpList_append_own _ rfl _ _ 24 rfl w.heap.size 22 it (.slice none 0 0) 1 24 Tryz.underlying24 hi hz0 hz1 hz2 rfl (by decide) _ _ _ rfl (HO.out.1.alloc _) ⟨wr.heap.size,0,none⟩ 1 1 [Value.slice (some ⟨b,off,none⟩) 0 0] rfl rfl (cell_one_new _ _ _) (fun u hu=>by rw[List.mem_singleton.1 hu];rfl) (by unfold maxLen;omega) (by omega) (by have:=HB.out.size;rw[World.size_alloc];omega) ?_;intro v4 w4 hown4 hgrow4 _;have hb4:Hid (Below w.heap.size w w4):=(HB.out.alloc HB.out.size _).grown hgrow4 (by have:=HB.out.size;rw[World.size_alloc];omega) (fun k hk=>(HO.out.1.lt k hk).1)));rw[<-hSA]at hown4;go_roundw
      case rel=>exact⟨i+1,i+1,out++[(R.drop i).take (i-i)],_,by go_num,by go_num,by omega,by omega,by rw[List.length_append,List.length_singleton];omega,⟨HN.out,fun h=>h⟩,⟨by rw[List.length_append,List.length_singleton];exact hown4,HO.out.2.snoc HD.out⟩,hb4.out⟩
      case measure=>(simp[intOf]<;>omega)
     ·have hcf':f<cap:=by omega
      obtain⟨SA,hSA,HD⟩:∃ SA:Option Addr,SA=some ⟨b,off+f*3,none⟩/\Hid (Tre.RowsIn w SA (i-f) (cap-f) ((R.drop f).take (i-f))):=by
       refine⟨_,rfl,?_⟩;have:=rowsIn_take (rowsIn_drop HR.out f (by omega)) (i-f) (by omega);rw[if_neg (by omega),Option.map_some,Blk.add_plain]at this;exact this
      by_cases hfz:0<f
      ·have hfz0:(0:Int)<(f:Int):=by omega
       have HN:Hid (PrI R (i+1) (i+1) (out++[(R.drop f).take (i-f)])):=HP.out.1.take HC.out (.inl hfz);go_wp2_with (first | (at_builtin;refine wpList_append_own _ rfl _ _ 24 rfl w.heap.size 22 it (.slice none 0 0) 1 24 Tryz.underlying24 hi hz0 hz1 hz2 rfl (by decide) _ _ _ rfl (HO.out.1.alloc _) ⟨wr.heap.size,0,none⟩ 1 1 [Value.slice (some ⟨b,off+f*3,none⟩) (i-f) (cap-f)] rfl rfl (cell_one_new _ _ _) (fun u hu=>by rw[List.mem_singleton.1 hu];rfl) (by unfold maxLen;omega) (by omega) (by have:=HB.out.size;rw[World.size_alloc];omega) ?_;intro v4 w4 hown4 hgrow4 _;have hb4:Hid (Below w.heap.size w w4):=(HB.out.alloc HB.out.size _).grown hgrow4 (by have:=HB.out.size;rw[World.size_alloc];omega) (fun k hk=>(HO.out.1.lt k hk).1)));rw[<-hSA]at hown4;go_roundw
       case rel=>exact⟨i+1,i+1,out++[(R.drop f).take (i-f)],_,by go_num,by go_num,by omega,by omega,by rw[List.length_append,List.length_singleton];omega,⟨HN.out,fun h=>h⟩,⟨by rw[List.length_append,List.length_singleton];exact hown4,HO.out.2.snoc HD.out⟩,hb4.out⟩
       case measure=>(simp[intOf]<;>omega)
      ·have hf00:f=0:=by omega
       subst hf00;cases hq:(R.take i).any ful
       ·have HN:Hid (PrI R (i+1) (i+1) out):=HP.out.1.pass HC.out rfl hq;rw[hq]at HF;go_wp2_with (first | (go_at_call 20;refine(HF.out _ HB).mono ?_;rintro e w3 ⟨rfl,hb5⟩;have HB2:Hid (Below w.heap.size w w3):=HB.out.trans (hb5.mono HB.out.size);have HO2:Hid (w3.ownsRow w.heap.size 22 1 _ out.length vs):=own_bel HO.out.1 hb5));go_roundw
        case rel=>exact⟨i+1,i+1,out,vs,by go_num,by go_num,by omega,by omega,by omega,⟨HN.out,fun h=>h⟩,⟨HO2.out,HO.out.2⟩,HB2.out⟩
        case measure=>(simp[intOf]<;>omega)
       ·have HN:Hid (PrI R (i+1) (i+1) (out++[R.take i])):=by have:=HP.out.1.take HC.out (.inr hq);rw[List.drop_zero,Nat.sub_zero]at this;exact this
        rw[hq]at HF;go_wp2_with (first | (go_at_call 20;refine(HF.out _ HB).mono ?_;rintro e w3 ⟨rfl,hb5⟩;have HB2:Hid (Below w.heap.size w w3):=HB.out.trans (hb5.mono HB.out.size);have HO2:Hid (w3.ownsRow w.heap.size 22 1 _ out.length vs):=own_bel HO.out.1 hb5) | (at_builtin;refine wpList_append_own _ rfl _ _ 24 rfl w.heap.size 22 it (.slice none 0 0) 1 24 Tryz.underlying24 hi hz0 hz1 hz2 rfl (by decide) _ _ _ rfl (HO2.out.alloc _) ⟨w3.heap.size,0,none⟩ 1 1 [Value.slice (some ⟨b,off,none⟩) i cap] rfl rfl (cell_one_new _ _ _) (fun u hu=>by rw[List.mem_singleton.1 hu];rfl) (by unfold maxLen;omega) (by omega) (by have:=HB2.out.size;rw[World.size_alloc];omega) ?_;intro v4 w4 hown4 hgrow4 _;have hb4:Hid (Below w.heap.size w w4):=(HB2.out.alloc HB2.out.size _).grown hgrow4 (by have:=HB2.out.size;rw[World.size_alloc];omega) (fun k hk=>(HO2.out.lt k hk).1)));go_roundw
        case rel=>exact⟨i+1,i+1,out++[R.take i],_,by go_num,by go_num,by omega,by omega,by rw[List.length_append,List.length_singleton];omega,⟨HN.out,fun h=>h⟩,⟨by rw[List.length_append,List.length_singleton];exact hown4,HO.out.2.snoc (rowsIn_take HR.out i hle)⟩,hb4.out⟩
        case measure=>(simp[intOf]<;>omega)
  ·have HQ:Hid (out=dpL R):=by
    have hil:i=len+1:=by omega
    have h1:=HP.out;have h2:=HLn.out;have h3:=h1.2 hil;have h4:=h1.1;rw[hil,h2]at h4;exact h4.done (by omega)
   clear hr5 hfi hf0;go_wp2_with fail;go_ret;exact⟨_,vs,rfl,⟨by rw[<-HQ.out];exact HO.out.1,by rw[<-HQ.out];exact HO.out.2.later HB.out⟩,HB⟩
end Lod
namespace Lod
open Utf Rws Pln Flw Tre
open Go.RowKit Go.Shelf
open Blk (Rw RwAt z3 rowV rowV_at rC)
open Grp (wp_region_EI wpOpIn_go wpOpIn_append slu slu_t slu_f)
set_option maxHeartbeats 4000000
theorem Tryz.infoRow2:(Tryz.prog.info? 52).map (fun i=>(i.zero,i.size,i.bytes))=some (some (.agg #[.int .i64 0,.string ⟨#[]⟩,.int .i64 0]),3,32):=by kernel_rfl
theorem rowV_len (rs:List Rw):(Blk.rowV rs).length=rs.length*3:=by
 induction rs with
 | nil=>rfl
 | cons r t ih =>
  have e:Blk.rowV (r::t)=Blk.rC r++Blk.rowV t:=by simp[Blk.rowV]
  rw[e,List.length_append,ih,List.length_cons];simp[Blk.rC];omega
theorem row_one (r:Rw):∀ u∈Blk.rC r,u.oneCell'=true:=by
 intro u hu;simp only[Blk.rC,List.mem_cons,List.not_mem_nil,or_false]at hu;rcases hu with rfl | rfl | rfl<;>rfl
theorem rows_news {W:World} {b off cap:Nat} {d:List Rw} (h:Tre.RowsIn W (some ⟨b,off,none⟩) d.length cap d):∀ j u,(rowV d)[j]?=some u->W.cell? ((⟨b,off,none⟩:Addr).add j)=some u:=by
 intro j u hu
 have hj:j<d.length*3:=by
  rw[<-rowV_len];exact(List.getElem?_eq_some_iff.1 hu).1
 obtain⟨b',off',e,hlt,hc⟩:=h.1.2 (by omega);cases e;obtain⟨x0,x1,x2⟩:=hc (j / 3) (by omega);obtain⟨y0,y1,y2⟩:=rowV_at d (j / 3) (by omega);rw[Blk.add_plain];have hm:j % 3=0\/j % 3=1\/j % 3=2:=by omega
 rcases hm with hm | hm | hm
 ·have e:j=j / 3*3:=by omega
  rw[<-e]at y0 x0;rw[y0]at hu;cases hu;exact x0
 ·have e:j=j / 3*3+1:=by omega
  rw[<-e]at y1;rw[Nat.add_assoc,<-e]at x1;rw[y1]at hu;cases hu;exact x1
 ·have e:j=j / 3*3+2:=by omega
  rw[<-e]at y2;rw[Nat.add_assoc,<-e]at x2;rw[y2]at hu;cases hu;exact x2
theorem rowV_one (d:List Rw):∀ u∈rowV d,u.oneCell'=true:=by
 intro u hu;obtain⟨r,_,h⟩:=List.mem_flatMap.1 hu;exact row_one r u h
theorem below_of_grown {W W':World} (hg:W.grownBy W' none):Below W.heap.size W W':=⟨hg.os,hg.tape,hg.output,hg.size,fun j hj=>hg.block j hj (by simp)⟩
theorem own_rowsIn {W:World} {C:Nat} {v:Value} {d:List Rw} (h:W.ownsRow C 52 3 v d.length (rowV d)) (hb:∀ r∈d,r.2.1.length<=140737488351232):∃ a c,v=.slice a d.length c/\Tre.RowsIn W a d.length c d/\(∀ b off,a=some ⟨b,off,none⟩->v.ownBlock=some b):=by
 obtain⟨a,c,rfl,hc,hr,_⟩:=Blk.rw_own h;refine⟨a,c,rfl,⟨hr,hc,?_,hb⟩,fun b off e=>by rw[e];rfl⟩;rcases h.2 with ⟨e,_⟩ | ⟨g,cap,cur,e,_,_,_,hm,_⟩
 ·simp only[Value.slice.injEq]at e;rw[e.2.2];exact Nat.zero_le _
 ·simp only[Value.slice.injEq]at e;rw[e.2.2];exact hm
theorem wpOpIn_rows {F:Fence} {n:Nat} {ops:Array Oper} {Q:Exit->Act->World->Prop} {j:Nat} {o:Oper} {K:Act->World->Prop} {a:Act} {w:World} (ho:ops[j]?=some o)
  (hg:o.guard=none) (s x:Operand) (hop:o.op=Op.call { callee:=Callee.builtin Builtin.append,args:=#[s,x],argTypes:=#[22,22] }) (hs:a.eval s=.slice none 0 0)
  {xa:Option Addr} {xc:Nat} {d:List Rw} (hx:a.eval x=.slice xa d.length xc) (hR:Tre.RowsIn w xa d.length xc d) (hl:d.length<=100000)
  (hK:∀ a' c' w',Tre.RowsIn w' a' d.length c' d->(∀ b off,a'=some ⟨b,off,none⟩->0<d.length->w.heap.size<=b)->Below w.heap.size w w'->K (a.put o.dst (.slice a' d.length c')) w'):wpOpIn F n Tryz.prog ops Q j K a w:=by
 obtain⟨it,hi,hz0,hz1,hz2⟩:=info_parts Tryz.infoRow2;by_cases hp:0<d.length
 ·obtain⟨b,off,rfl,hlt,_⟩:=hR.1.2 hp;refine wpOpIn_append ho hg s x 22 hop w.heap.size 52 it (.agg #[.int .i64 0,.string ⟨#[]⟩,.int .i64 0]) 3 32 Tryz.underlying22 hi hz0 hz1 hz2 rfl (by decide) (.slice none 0 0) 0 [] hs (World.ownsRow_nil _ _ _ _) ⟨b,off,none⟩ d.length xc (rowV d) hx (rowV_len d) (rows_news hR) (rowV_one d) (by unfold maxLen;omega) (by omega) (Nat.le_refl _) ?_;intro v' w' hown hgr hat;rw[Nat.zero_add,List.nil_append]at hown;obtain⟨a',c',rfl,h1,h2⟩:=own_rowsIn hown hR.2.2.2;refine hK a' c' w' h1 (fun b' off' e _=> ?_) (below_of_grown hgr);have:=h2 b' off' e;rw[this]at hat;rcases hat with h | h
  ·cases h
  ·cases h;exact Nat.le_refl _
 ·have hd:d=[]:=List.eq_nil_of_length_eq_zero (by omega);subst hd
  have hsrc:Src Tryz.prog it.size 22 (.slice xa 0 xc) 0 [] w:=by
   cases xa with
   | none=>exact Src.ofNil w Tryz.underlying22 xc
   | some ad=>exact Src.ofSlice w Tryz.underlying22 ad 0 xc [] (by simp) (fun j u h=>by cases h) (fun u h=>by cases h)
  have hrun:=run_append_nothing w 22 22 o.type 52 it Tryz.underlying22 hi none 0 0 (Nat.le_refl _) _ hsrc;refine wpOpIn_go ho hg ?_;have hx':a.eval x=.slice xa 0 xc:=hx;unfold Oper.wpIn;refine⟨?_,?_⟩
  ·simp[Oper.about,hop,resolve,Target.leads,Sem.run_pure]
  ·rw[Oper.semAt_plain F _ _ (by rw[hop];intro c hc';cases hc')];simp[execOp,hop,resolve,invoke,builtin,hs,hx',hrun,Result.andThen];exact hK none 0 w (Tre.RowsIn.nil w) (fun b off e=>by cases e) (Below.refl _ _)
def RwsO (P:Nat->Prop) (W:World) (v:Value) (d:List Rw):Prop:=∃ a c,v=.slice a d.length c/\Tre.RowsIn W a d.length c d/\(∀ b off,a=some ⟨b,off,none⟩->0<d.length->P b)
theorem RwsO.wide {P P':Nat->Prop} {W:World} {v:Value} {d:List Rw} (h:RwsO P W v d) (hp:∀ b,P b->b<W.heap.size->P' b):RwsO P' W v d:=by
 obtain⟨a,c,h1,h2,h3⟩:=h;refine⟨a,c,h1,h2,fun b off e h0=>hp b (h3 b off e h0) ?_⟩;obtain⟨b',off',e',hlt,_⟩:=h2.1.2 h0;rw[e]at e';cases e';exact hlt
theorem RwsO.keep {P:Nat->Prop} {W W':World} {v:Value} {d:List Rw} (h:RwsO P W v d) (hs:W.heap.size<=W'.heap.size) (hk:∀ b,P b->b<W.heap.size->W'.heap[b]?=W.heap[b]?):RwsO P W' v d:=by
 obtain⟨a,c,h1,h2,h3⟩:=h;refine⟨a,c,h1,⟨⟨rfl,fun h0=> ?_⟩,h2.2⟩,h3⟩;obtain⟨b,off,e,hlt,hc⟩:=h2.1.2 h0;have e2:∀ n,W'.cell? ⟨b,n,none⟩=W.cell? ⟨b,n,none⟩:=fun n=>World.cell?_of_block (w:=W) (hk b (h3 b off e h0) hlt)
 refine⟨b,off,e,Nat.lt_of_lt_of_le hlt hs,fun i hi=> ?_⟩;obtain⟨x0,x1,x2⟩:=hc i hi;exact⟨(e2 _).trans x0,(e2 _).trans x1,(e2 _).trans x2⟩
theorem RwsO.later {P:Nat->Prop} {W W':World} {v:Value} {d:List Rw} (h:RwsO P W v d) (hb:Below W.heap.size W W'):RwsO P W' v d:=h.keep hb.size (fun j _ hj=>hb.block j hj)
theorem RwsO.kept {P:Nat->Prop} {X Y:World} {row:Option Nat} {v:Value} {d:List Rw} (h:RwsO P X v d) (hg:X.grownBy Y row) (hr:∀ r,row=some r->∃ o:Obj,X.heap[r]?=some o/\o.isCells=false):RwsO P Y v d:=by
 obtain⟨a,c,h1,h2,h3⟩:=h;refine⟨a,c,h1,⟨⟨rfl,fun h0=> ?_⟩,h2.2⟩,h3⟩;obtain⟨b,off,e,hlt,hc⟩:=h2.1.2 h0;refine⟨b,off,e,Nat.lt_of_lt_of_le hlt hg.size,fun i hi=> ?_⟩;obtain⟨x0,x1,x2⟩:=hc i hi;exact⟨cell_kept x0 hg hr,cell_kept x1 hg hr,cell_kept x2 hg hr⟩
def RsO (P:Nat->Prop) (W:World) (vs:List Value) (ds:List (List Rw)):Prop:=vs.length=ds.length/\∀ i,i<ds.length->∃ v,vs[i]?=some v/\RwsO P W v (ds.getD i [])
theorem RsO.nil (P:Nat->Prop) (W:World):RsO P W [] []:=⟨rfl,fun i hi=>absurd hi (Nat.not_lt_zero _)⟩
theorem RsO.all {P P':Nat->Prop} {W W':World} {vs:List Value} {ds:List (List Rw)} (h:RsO P W vs ds) (hf:∀ v d,RwsO P W v d->RwsO P' W' v d):RsO P' W' vs ds:=⟨h.1,fun i hi=>by obtain⟨v,h1,h2⟩:=h.2 i hi;exact⟨v,h1,hf _ _ h2⟩⟩
theorem RsO.snoc {P:Nat->Prop} {W:World} {vs:List Value} {ds:List (List Rw)} {v:Value} {d:List Rw} (h:RsO P W vs ds) (hd:RwsO P W v d):RsO P W (vs++[v]) (ds++[d]):=by
 refine⟨by rw[List.length_append,List.length_append,h.1];rfl,fun i hi=> ?_⟩;rw[List.length_append,List.length_singleton]at hi;by_cases hlt:i<ds.length
 ·obtain⟨v',h1,h2⟩:=h.2 i hlt;have e:(ds++[d]).getD i []=ds.getD i []:=by rw[List.getD_eq_getElem?_getD,List.getElem?_append_left hlt,<-List.getD_eq_getElem?_getD]
  rw[e];exact⟨v',by rw[List.getElem?_append_left (by rw[h.1];exact hlt)];exact h1,h2⟩
 ·have e:i=ds.length:=by omega
  subst e;have e:(ds++[d]).getD ds.length []=d:=by rw[List.getD_eq_getElem?_getD,List.getElem?_append_right (Nat.le_refl _),Nat.sub_self];rfl
  rw[e];exact⟨v,by rw[List.getElem?_append_right (by rw[h.1];exact Nat.le_refl _),h.1,Nat.sub_self];rfl,hd⟩
theorem RsO.b {P:Nat->Prop} {W:World} {vs:List Value} {ds:List (List Rw)} (h:RsO P W vs ds):RsB W vs ds:=⟨h.1,fun i hi=>by obtain⟨v,h1,a,c,rfl,h3,_⟩:=h.2 i hi;exact⟨a,c,h1,h3⟩⟩
theorem own_keptG {C:Nat} {X Y:World} {row:Option Nat} {e:TypeId} {k:Nat} {v:Value} {n:Nat} {xs:List Value} (h:X.ownsRow C e k v n xs) (hg:X.grownBy Y row) (hr:∀ r,row=some r->∃ o:Obj,X.heap[r]?=some o/\o.isCells=false):Y.ownsRow C e k v n xs:=by
 refine h.kept hg ?_;rcases h.2 with ⟨rfl,_⟩ | ⟨g,cap,cur,rfl,_,hgb,_⟩
 ·exact .inl rfl
 ·refine .inr fun e'=> ?_
  obtain⟨o,ho,hc⟩:=hr g (by simpa [Value.ownBlock]using e'.symm);rw[hgb]at ho;cases ho;cases hc
theorem own_keepG {C:Nat} {W W':World} {e:TypeId} {k:Nat} {v:Value} {n:Nat} {xs:List Value} (h:W.ownsRow C e k v n xs) (hk:∀ j,C<=j->j<W.heap.size->W'.heap[j]?=W.heap[j]?):W'.ownsRow C e k v n xs:=by
 refine⟨h.1,?_⟩;rcases h.2 with h0 | ⟨g,cap,cur,rfl,hb,hg,hc⟩
 ·exact .inl h0
 ·exact .inr ⟨g,cap,cur,rfl,hb,(hk g hb (h.lt g rfl).2).trans hg,hc⟩
def PtI (K C:Nat) (ds:List (List Rw)) (W:World):Prop:=∃ (v:Value) (vs:List Value),Bx W K #[v] 24/\W.ownsRow C 22 1 v ds.length vs/\RsO (Out C v) W vs ds
theorem ptI_own {β:Type} (K C:Nat) (f:β->List (List Rw)):Own (fun (s:β) W=>PtI K C (f s) W):=fun s X Y row h hg hr=>by
 obtain⟨v,vs,h1,h2,h3⟩:=h;refine⟨v,vs,?_,own_keptG h2 hg hr,h3.all (fun _ _ q=>q.kept hg hr)⟩
 exact(hg.block K h1.lt (fun e=>by
  obtain⟨o,ho,hc⟩:=hr K e.symm;rw[show X.heap[K]?=_ from h1]at ho;cases ho;cases hc)).trans h1
structure PtA (W0 W:World) (K C:Nat) (bx v:Value) (n:Nat) (vs:List Value) (ds:List (List Rw)):Prop where
 lo:Lo W0 W K C
 bt:Bx W K #[bx] 24
 own:W.ownsRow C 22 1 v n vs
 rs:RsO (Out C v) W vs ds
 hC:C=W0.heap.size
 hK:K<C
theorem PtA.later {W0 W W':World} {K C n:Nat} {bx v:Value} {vs:List Value} {ds:List (List Rw)} (h:PtA W0 W K C bx v n vs ds) (hb:Below W.heap.size W W'):PtA W0 W' K C bx v n vs ds :=
 ⟨h.lo.later (Nat.le_of_eq h.hC) hb,h.bt.later hb,own_keepG h.own (fun j _ hj=>hb.block j hj),h.rs.all (fun _ _ q=>q.later hb),h.hC,h.hK⟩
theorem PtA.more {W0 W W':World} {K C n n':Nat} {bx v v' y:Value} {vs:List Value} {ds:List (List Rw)} {d:List Rw} (h:PtA W0 W K C bx v n vs ds) (hy:RwsO (Out C v) W y d) (hown:W'.ownsRow C 22 1 v' n' (vs++[y])) (hg:W.grownBy W' v.ownBlock) (hat:v'.ownBlock=v.ownBlock\/v'.ownBlock=some W.heap.size):PtA W0 W' K C bx v' n' (vs++[y]) (ds++[d]):=by
 have hrow:∀ k,v.ownBlock=some k->C<=k:=fun k hk=>(h.own.lt k hk).1
 have hkeep:∀ j,j<W.heap.size->(∀ k,v.ownBlock=some k->j≠k)->W'.heap[j]?=W.heap[j]?:=fun j hj hne=>hg.block j hj (fun e=>hne j e.symm rfl)
 have hout:∀ j,Out C v j/\j<W.heap.size->Out C v' j:=fun j a=>⟨a.1.1,fun k hk=>by
  rcases hat with e | e
  ·rw[e]at hk;exact a.1.2 k hk
  ·rw[e]at hk;cases hk;exact Nat.ne_of_lt a.2⟩
 have hKl:=h.bt.lt;have hKC:=h.hK
 have hall:∀ u q,RwsO (Out C v) W u q->RwsO (Out C v') W' u q:=fun u q hq =>
  ((hq.wide (P':=fun j=>Out C v j/\j<W.heap.size) (fun b a c=>⟨a,c⟩)).keep hg.size (fun j a _=>hkeep j a.2 a.1.2)).wide (fun j a _=>hout j a)
 exact⟨h.lo.grown (Nat.le_of_eq h.hC) hg hrow,(hkeep K hKl (fun k hk=>by have:=hrow k hk;omega)).trans h.bt,hown,(h.rs.all hall).snoc (hall _ _ hy),h.hC,h.hK⟩
theorem PtA.box {W0 W:World} {K C n:Nat} {bx v:Value} {vs:List Value} {ds:List (List Rw)} (h:PtA W0 W K C bx v n vs ds) (u:Value):PtA W0 (W.setCell ⟨K,0,none⟩ u) K C u v n vs ds:=by
 have hKC:=h.hK;have hk:∀ j,C<=j->(W.setCell ⟨K,0,none⟩ u).heap[j]?=W.heap[j]?:=fun j hj=>Below.heap_setCell _ _ _ _ (fun e=>by simp only at e;omega)
 exact⟨h.lo.setK 0 u,h.bt.set 0 u,own_keepG h.own (fun j hj _=>hk j hj),h.rs.all (fun _ _ q=>q.keep (by simp[World.setCell]) (fun j a _=>hk j a.1)),h.hC,h.hK⟩
end Lod
namespace Lod
open Utf Rws Pln Flw Tre
open Go.RowKit Go.Shelf
open Blk (Rw RwAt z3)
open Grp (wp_region_EI wpOpIn_go wpOpIn_append slu slu_t slu_f clo clo_nil clo_set)
set_option maxHeartbeats 8000000
attribute [local go_sem] Oper.semAt_some
theorem doc1_len:∀ (n:Nat) (l:List Rw),(doc1 n l).length<=l.length
 | 0,l=>Nat.zero_le _
 | n+1,[]=>Nat.zero_le _
 | n+1,m::t=>by
  have h1:=doc1_len n (lft t);have h2:=lft_len t;rw[doc1,List.length_cons,List.length_cons];omega
theorem docs_len (l:List Rw):(docs l).length<=l.length+1:=by
 have h1:=doc1_len (l.length+1) (lft l);have h2:=lft_len l;unfold docs;rw[List.length_append];split
 ·rw[List.length_singleton];omega
 ·rw[List.length_nil];omega
theorem bx_one {W:World} {B:Nat} {v:Value} {t:TypeId} (h:Bx W B #[v] t):∀ j u,[v][j]?=some u->W.cell? ((⟨B,0,none⟩:Addr).add j)=some u:=by
 intro j u hj;rw[Blk.add_plain,Nat.zero_add,h.cell j];simpa using hj
theorem own_shG {C k:Nat} {W:World} {e:TypeId} {v:Value} {n:Nat} {xs:List Value} (h:W.ownsRow C e k v (n+1) xs):∃ g cap,v=.slice (some ⟨g,0,none⟩) (n+1) cap:=by
 rcases h.2 with ⟨_,h0⟩ | ⟨g,cap,cur,rfl,_⟩
 ·exact absurd h0 (by omega)
 ·exact⟨g,cap,rfl⟩
theorem own_cellsG {C k n:Nat} {W:World} {e:TypeId} {v:Value} {xs:List Value} (h:W.ownsRow C e k v n xs) {j:Nat} {o:Obj} (e1:v.ownBlock=some j) (e2:W.heap[j]?=some o):o.isCells=true:=by
 rcases h.2 with ⟨rfl,_⟩ | ⟨g,cap,cur,rfl,_,hh,_⟩
 ·cases e1
 ·cases e1;have:W.heap[g]?=some o:=e2;rw[hh]at this;cases this;rfl
structure P4E where
 d:Option Addr
 c:Nat
 B:Nat
 g:Nat
 vc:Nat
 W:World
def p4Dp:List (List Nat):=[[],[],[1],[2],[0,3,2],[4]]
theorem parts_any (a:Option Addr) (R:List Rw) (cap:Nat) (w:World) (hr0:Tre.RowsIn w a R.length cap R) (hl0:R.length<=100000):Calls Tryz.prog 8 #[.slice a R.length cap] w (PtsRes (dpL R) w):=by
 have HR0:Hid (Tre.RowsIn w a R.length cap R):=hr0;clear hr0;refine(callsIn_wide (n:=4)).1 ?_;refine callsIn_of_wp_marks Tryz.func8 rfl trivial ?_ rfl;simp only[Tryz.ntmps8,List.size_toArray,List.length_cons,List.length_nil,Nat.reduceAdd,Nat.reduceSub,Array.replicate_succ,Array.replicate_zero,List.push_toArray,List.append_toArray,List.nil_append,List.cons_append]
 gi_wp2_with (first | (refine⟨trivial,?_⟩;gi_at_call 18;refine(documents_in a R.length cap _ _).mono ?_;rintro e w' ⟨rfl,rfl⟩))
 obtain⟨W0,hW0⟩:∃ W0,(w.alloc (.cells #[.slice none 0 0] 24)).alloc (.cells #[.slice a R.length cap] 22)=W0:=⟨_,rfl⟩;rw[hW0];have n2:=two_b w #[.slice none 0 0] #[.slice a R.length cap] 24 22;have hS0:W0.heap.size=w.heap.size+1+1:=by rw[<-hW0];simp
 rw[hW0]at n2;obtain⟨nb,nt,nl⟩:=n2
 obtain⟨b,hb6,hRB⟩:∃ b,b<W0.heap.size/\b≠w.heap.size/\RowsB W0 b a R.length cap R:=by
  have h':=HR0.out.later nb;by_cases hp:0<R.length
  ·obtain⟨b,off,had,hlt,_⟩:=HR0.out.1.2 hp;exact⟨b,by omega,by omega,h',fun _=>⟨off,had⟩⟩
  ·exact⟨w.heap.size+1,by omega,by omega,h',fun q=>absurd q hp⟩
 obtain⟨hbK,hRB⟩:=hRB;have hrb:∀ r∈R,r.2.1.length<=140737488351232:=HR0.out.2.2.2;obtain⟨K,hK⟩:∃ K,K=w.heap.size:=⟨_,rfl⟩;obtain⟨KL,hKL⟩:∃ K,K=w.heap.size+1:=⟨_,rfl⟩;have hSC:W0.heap.size=KL+1:=by omega
 rw[<-hKL]at nl;rw[<-hK]at nt hbK hKL
 try rw[<-hK]
 try rw[<-hKL]
 have bL:W0.cell? ⟨KL,0,none⟩=some (.slice a R.length cap):=nl.cell 0;have hKS:K<KL:=by omega
 have HKw:Hid (K=w.heap.size):=hK;have hB0:Below w.heap.size w W0:=nb;clear hW0 nb hS0 hK hKL HR0
 refine wpIn_rangeFunc_ownG rfl (by decide) (gf:=28) (lb:=#[.pointer (some ⟨KL,0,none⟩)]) rfl trivial (enters_of Tryz.func28 (by kernel_rfl) rfl)
  (docs_stops (P:=fun d=>d.length<=100000) (4-1) (by decide) KL b a R.length cap R (fun d hd=>Nat.le_trans (docs_sub hd).length_le hl0) hrb W0 (by omega) (by omega) bL hRB) (fun h k=>kpd_trans h k) (fun X l o o' hl _ _ _=>⟨World.putObj_heap_other (fun e=>by omega),World.putObj_heap_other (fun e=>by omega),by simp[World.putObj]⟩) (Below.refl _ _) (fun _=>rfl)
  (fun (pre:List (Dx W0 b fun d=>d.length<=100000)) W=>PtI K W0.heap.size (pre.map fun x=>x.1.2.2) W/\Lo W0 W K W0.heap.size)
  (fun c (pre:List (Dx W0 b fun d=>d.length<=100000)) W=>False/\Below w.heap.size w W)
  (OwnFrom.and (fun pre W W' row h hg hr=>ptI_own K W0.heap.size (fun pre:List (Dx W0 b fun d=>d.length<=100000)=>pre.map fun x=>x.1.2.2) pre W W' row h hg (fun r e=>(hr r e).2)) (Lo.own (Nat.le_refl _) (Nat.le_refl _)))
  (fun c=>OwnFrom.and (Own.from (fun t A B row ht hg hr=>ht.elim) _) (ownFrom_below (Nat.le_refl _) (by have:=hB0.size;omega)))
  ⟨⟨.slice none 0 0,[],nt,World.ownsRow_nil _ _ _ _,RsO.nil _ _⟩,Lo.refl _ _ _⟩
  (fun x=> { tmps:=#[.slice a R.length cap,undef,.slice none 0 0,.pointer (some ⟨K,0,none⟩),undef,.slice x.1.2.1.1 x.1.2.1.2.1 x.1.2.1.2.2,.slice a R.length cap,.func (.func 28) #[] #[.pointer (some ⟨KL,0,none⟩)],.int .i64 x.1.1,.slice x.1.2.1.1 x.1.2.1.2.1 x.1.2.1.2.2,undef,undef,undef,undef,undef,undef],defers:=[] }) ?assign ?body ?done ?stop
 case assign =>
  intro l x W Kk hKk
  gi_wp2
  exact hKk
 case body =>
  rintro l pre x W ⟨⟨v,vs,hbt,hown,hrs⟩,hLo⟩ hlt;have hpl:pre.length<=100001:=by have:=docs_len R;omega
  have hWs:=hLo.size;have hwB0:=hB0.size;have hXR:RowsB W b x.1.2.1.1 x.1.2.1.2.1 x.1.2.1.2.2 x.1.2.2:=x.2.1.kept (hLo.block b (by omega) (by omega)) hLo.size;have HXN:Hid (x.1.2.1.2.1=x.1.2.2.length):=hXR.1.1.1;have hdl:x.1.2.2.length<=100000:=x.2.2;obtain⟨KS,hKS⟩:∃ KS,KS=pre.map fun x=>x.1.2.2:=⟨_,rfl⟩
  have HKS0:Hid (KS=pre.map fun x=>x.1.2.2):=hKS;rw[<-hKS]at hown hrs;obtain⟨N,hN⟩:∃ N,N=KS.length:=⟨_,rfl⟩;have HN:Hid (N=KS.length):=hN;have hN64:N<=100001:=by rw[hN,hKS,List.length_map];exact hpl
  rw[<-hN]at hown;clear hKS hN;obtain⟨va,vc,rfl⟩:=slice_of_own hown;have hvb:∀ k,(Value.slice va N vc).ownBlock=some k->k<W.heap.size:=fun k hk=>(hown.lt k hk).2
  have hWC:W0.heap.size<=W.heap.size:=hWs
  gi_wp2
  have hmix:Tryz.prog.follows .mixedOrders=true:=by kernel_rfl
  obtain⟨it,hi,hz0,hz1,hz2⟩:=info_parts Tryz.infoRws;have jb0:Hid (W0.heap.size<=W.drew.heap.size/\KeepsOthers W W.drew/\W.heap.size<=W.drew.heap.size):=⟨hWs,KeepsOthers.drew _,Nat.le_refl _⟩
  have j00:([false,false,false,false,false,false]:List Bool).getD 4 false=false->Hid (PtA W0 W.drew K W0.heap.size (.slice va N vc) (.slice va N vc) N vs KS/\Tre.RowsIn W.drew x.1.2.1.1 x.1.2.2.length x.1.2.1.2.2 x.1.2.2):=fun _=>⟨(⟨hLo,hbt,hown,hrs,rfl,by omega⟩:PtA W0 W K W0.heap.size (.slice va N vc) (.slice va N vc) N vs KS).later (Below.refl _ W).drew,by
   have h:=hXR.1.later (Below.refl _ W).drew;rw[HXN.out]at h;exact h⟩
  clear hbt hown hrs hXR;have hLk:W.heap[KL]?=W0.heap[KL]?/\W.heap[b]?=W0.heap[b]?:=⟨hLo.block KL (by omega) (by omega),hLo.block b (by omega) (by omega)⟩;clear hLo;refine wp_region_EI hmix (N:=6) (dp:=p4Dp) (by kernel_rfl) (E:=P4E) (fun (e:P4E) (bs:List Bool)=>Hid (W0.heap.size<=e.W.heap.size/\KeepsOthers W e.W/\W.heap.size<=e.W.heap.size)/\(bs.getD 4 false=false->Hid (PtA W0 e.W K W0.heap.size (.slice va N vc) (.slice va N vc) N vs KS/\Tre.RowsIn e.W x.1.2.1.1 x.1.2.2.length x.1.2.1.2.2 x.1.2.2))/\(bs.getD 2 false=true->bs.getD 4 false=false->Hid (RwsO (fun b=>W.heap.size<=b) e.W (.slice e.d x.1.2.2.length e.c) x.1.2.2))/\(bs.getD 3 false=true->bs.getD 4 false=false->Hid (Bx e.W e.B #[.slice e.d x.1.2.2.length e.c] 22))/\(bs.getD 4 false=true->Hid (PtA W0 e.W K W0.heap.size (cond (bs.getD 5 false) (.slice (some ⟨e.g,0,none⟩) (N+1) e.vc) (.slice va N vc)) (.slice (some ⟨e.g,0,none⟩) (N+1) e.vc) (N+1) (vs++[.slice e.d x.1.2.2.length e.c]) (KS++[x.1.2.2])))/\clo p4Dp bs) (fun (e:P4E) (bs:List Bool)=> { tmps:=#[.slice a R.length cap,undef,.slice none 0 0,.pointer (some ⟨K,0,none⟩),undef,.slice x.1.2.1.1 x.1.2.1.2.1 x.1.2.1.2.2,.slice a R.length cap,.func (.func 28) #[] #[.pointer (some ⟨KL,0,none⟩)],.int .i64 x.1.1,.slice x.1.2.1.1 x.1.2.1.2.1 x.1.2.1.2.2,slu (bs.getD 0 false) (.slice va N vc) undef,slu (bs.getD 1 false) (.slice x.1.2.1.1 x.1.2.1.2.1 x.1.2.1.2.2) undef,slu (bs.getD 2 false) (.slice e.d x.1.2.2.length e.c) undef,slu (bs.getD 3 false) (.slice (some ⟨e.B,0,none⟩) 1 1) undef,slu (bs.getD 4 false) (.slice (some ⟨e.g,0,none⟩) (N+1) e.vc) undef,undef],defers:=[] }) (fun (e:P4E) (bs:List Bool)=>e.W) ?hS ?hF ⟨none,0,0,0,0,W.drew⟩ ⟨jb0,j00,fun h=>absurd h (by decide),fun h=>absurd h (by decide),fun h=>absurd h (by decide),clo_nil _ _⟩ rfl rfl
  case hS =>
   rintro e bs hJ hl i hi' hbi hd Kk hK;have hcl:=clo_set hJ.2.2.2.2.2 (i:=i) (by rw[hl];exact hi') hd
   match bs,hl with
   | [b0,b1,b2,b3,b4,b5],_ =>
    obtain⟨JB,J0,J1,J2,J3,JC⟩:=hJ;simp only[List.getD_cons_zero,List.getD_cons_succ]at J0 J1 J2 J3 |-;have hi2:i=0\/i=1\/i=2\/i=3\/i=4\/i=5:=by omega
    rcases hi2 with rfl | rfl | rfl | rfl | rfl | rfl
    ·have g0:b0=false:=hbi;have f4:b4=false:=by cases hb:b4 with | false=>rfl | true=>exact absurd (show b0=true from(JC 4 0 (by simp[p4Dp]) hb)) (by rw[g0];simp)
     have f5:b5=false:=by cases hb:b5 with | false=>rfl | true=>exact absurd (show b0=true from(JC 4 0 (by simp[p4Dp]) (JC 5 4 (by simp[p4Dp]) hb))) (by rw[g0];simp)
     subst g0 f4 f5;have c0:e.W.cell? ⟨K,0,none⟩=some (.slice va N vc):=(J0 rfl).out.1.bt.cell 0;have hK2:=hK e ⟨JB,J0,J1,J2,J3,hcl⟩;clear hK hd hbi hcl JB J0 J1 J2 J3 JC;simp only[List.set_cons_zero,List.set_cons_succ,List.getD_cons_zero,List.getD_cons_succ,slu_t,slu_f]at hK2 |-;refine wpOpIn_go rfl rfl ?_
     go_simp
     exact hK2
    ·have g1:b1=false:=hbi;subst g1;have hK2:=hK e ⟨JB,J0,J1,J2,J3,hcl⟩;clear hK hd hbi hcl JB J0 J1 J2 J3 JC;simp only[List.set_cons_zero,List.set_cons_succ,List.getD_cons_zero,List.getD_cons_succ,slu_t,slu_f]at hK2 |-;refine wpOpIn_go rfl rfl ?_
     go_simp
     exact hK2
    ·have g2:b2=false:=hbi;have e1:b1=true:=hd 1 (by simp[p4Dp]);have f3:b3=false:=by cases hb:b3 with | false=>rfl | true=>exact absurd (show b2=true from(JC 3 2 (by simp[p4Dp]) hb)) (by rw[g2];simp)
     have f4:b4=false:=by cases hb:b4 with | false=>rfl | true=>exact absurd (show b2=true from(JC 3 2 (by simp[p4Dp]) (JC 4 3 (by simp[p4Dp]) hb))) (by rw[g2];simp)
     have f5:b5=false:=by cases hb:b5 with | false=>rfl | true=>exact absurd (show b2=true from(JC 3 2 (by simp[p4Dp]) (JC 4 3 (by simp[p4Dp]) (JC 5 4 (by simp[p4Dp]) hb)))) (by rw[g2];simp)
     subst g2 e1 f3 f4 f5;have h0:=(J0 rfl).out;refine wpOpIn_rows rfl rfl (.const (.slice none 0 0)) (.tmp 11) rfl rfl (xa:=x.1.2.1.1) (xc:=x.1.2.1.2.2) (d:=x.1.2.2) (by rw[<-HXN.out];simp[Act.eval,slu_t]) h0.2 hdl ?_;intro a' c' w3 hr3 hp3 hb3;exact hK ⟨a',c',e.B,e.g,e.vc,w3⟩ ⟨⟨Nat.le_trans JB.out.1 hb3.size,JB.out.2.1.trans (KeepsOthers.of_grownBy (grown_of_below hb3) (fun j o e=>by cases e)),Nat.le_trans JB.out.2.2 hb3.size⟩,fun _=>⟨h0.1.later hb3,h0.2.later hb3⟩,fun _ _=>⟨a',c',rfl,hr3,fun b off e h=>Nat.le_trans JB.out.2.2 (hp3 b off e h)⟩,fun h=>absurd h (by simp),fun h=>absurd h (by simp),hcl⟩
    ·have g3:b3=false:=hbi;have e2:b2=true:=hd 2 (by simp[p4Dp]);have f4:b4=false:=by cases hb:b4 with | false=>rfl | true=>exact absurd (show b3=true from(JC 4 3 (by simp[p4Dp]) hb)) (by rw[g3];simp)
     have f5:b5=false:=by cases hb:b5 with | false=>rfl | true=>exact absurd (show b3=true from(JC 4 3 (by simp[p4Dp]) (JC 5 4 (by simp[p4Dp]) hb))) (by rw[g3];simp)
     subst g3 e2 f4 f5;have bA:=below_alloc e.W (.cells #[.slice e.d x.1.2.2.length e.c] 22);have hK2:=hK ⟨e.d,e.c,e.W.heap.size,e.g,e.vc,e.W.alloc (.cells #[.slice e.d x.1.2.2.length e.c] 22)⟩ ⟨⟨Nat.le_trans JB.out.1 bA.size,JB.out.2.1.trans (KeepsOthers.alloc _ _),Nat.le_trans JB.out.2.2 bA.size⟩,fun h=>⟨(J0 h).out.1.later bA,(J0 h).out.2.later bA⟩,fun h1 h2=>(J1 h1 h2).out.later bA,fun _ _=>Bx.new _ _ _,fun h=>absurd h (by simp),hcl⟩;clear hK hd hbi hcl JB J0 J1 J2 J3 JC bA;simp only[List.set_cons_zero,List.set_cons_succ,List.getD_cons_zero,List.getD_cons_succ,slu_t,slu_f]at hK2 |-;refine wpOpIn_go rfl rfl ?_
     go_simp
     exact hK2
    ·have g4:b4=false:=hbi;have e0:b0=true:=hd 0 (by simp[p4Dp]);have e3:b3=true:=hd 3 (by simp[p4Dp]);have e2:b2=true:=hd 2 (by simp[p4Dp]);have f5:b5=false:=by cases hb:b5 with | false=>rfl | true=>exact absurd (show b4=true from(JC 5 4 (by simp[p4Dp]) hb)) (by rw[g4];simp)
     subst g4 e0 e3 e2 f5;have h0:=(J0 rfl).out.1;have hB:=(J2 rfl rfl).out;have hS:=(J1 rfl rfl).out;refine wpOpIn_append rfl rfl (.tmp 10) (.tmp 13) 24 rfl W0.heap.size 22 it (.slice none 0 0) 1 24 Tryz.underlying24 hi hz0 hz1 hz2 rfl (by decide) (.slice va N vc) N vs (by simp[Act.eval,slu_t]) h0.own ⟨e.B,0,none⟩ 1 1 [.slice e.d x.1.2.2.length e.c] (by simp[Act.eval,slu_t]) rfl (bx_one hB) (fun u hu=>by rw[List.mem_singleton.1 hu];rfl) (by unfold maxLen;omega) (by omega) JB.out.1 ?_;intro v' w3 hown' hgrow hat;obtain⟨g',vc',rfl⟩:=own_shG hown';have h2:=h0.more (hS.wide (fun b hb _=>⟨Nat.le_trans hWC hb,fun k hk=>by have:=(hvb k hk);omega⟩)) hown' hgrow hat;have hko:KeepsOthers e.W w3:=KeepsOthers.of_grownBy hgrow (fun j o e1 e2=>own_cellsG h0.own e1 e2);exact hK ⟨e.d,e.c,e.B,g',vc',w3⟩ ⟨⟨Nat.le_trans JB.out.1 hgrow.size,JB.out.2.1.trans hko,Nat.le_trans JB.out.2.2 hgrow.size⟩,fun h=>absurd h (by simp),fun _ h=>absurd h (by simp),fun _ h=>absurd h (by simp),fun _=>h2,hcl⟩
    ·have g5:b5=false:=hbi;have e4:b4=true:=hd 4 (by simp[p4Dp]);subst g5 e4;have h2:=(J3 rfl).out;have c0:e.W.cell? ⟨K,0,none⟩=some (.slice va N vc):=h2.bt.cell 0;have z0:=h2.bt.fz 0;have h3:=h2.box (.slice (some ⟨e.g,0,none⟩) (N+1) e.vc);have hK2:=hK ⟨e.d,e.c,e.B,e.g,e.vc,e.W.setCell ⟨K,0,none⟩ (.slice (some ⟨e.g,0,none⟩) (N+1) e.vc)⟩ ⟨⟨by simp only[World.size_setCell];exact JB.out.1,JB.out.2.1.trans (KeepsOthers.setCell _ _ _),by simp only[World.size_setCell];exact JB.out.2.2⟩,fun h=>absurd h (by simp),fun _ h=>absurd h (by simp),fun _ h=>absurd h (by simp),fun _=>h3,hcl⟩;clear hK hd hbi hcl JB J0 J1 J2 J3 JC h2 h3;simp only[List.set_cons_zero,List.set_cons_succ,List.getD_cons_zero,List.getD_cons_succ,slu_t,slu_f]at hK2 |-;refine wpOpIn_go rfl rfl ?_
     go_simp
     exact hK2
  case hF =>
   rintro e ⟨JB,J0,J1,J2,J3,JC⟩;simp only[show List.replicate 6 true=[true,true,true,true,true,true]from rfl,List.getD_cons_zero,List.getD_cons_succ,slu_t];obtain⟨da,dc,BB,g,vcc,W9⟩:=e;have h2:=(J3 rfl).out;change PtA W0 W9 K W0.heap.size (.slice (some ⟨g,0,none⟩) (N+1) vcc) (.slice (some ⟨g,0,none⟩) (N+1) vcc) (N+1) (vs++[.slice da x.1.2.2.length dc]) (KS++[x.1.2.2])at h2;change Hid (_/\KeepsOthers W W9/\_)at JB;have hlo:=h2.lo;refine⟨JB.out.2.1.from _,⟨?_,?_,?_⟩,?_,hlo⟩
   ·exact(hlo.block KL (by omega) (by omega)).trans hLk.1.symm
   ·exact(hlo.block b (by omega) (by omega)).trans hLk.2.symm
   ·exact JB.out.2.2
   ·rw[List.map_append,<-HKS0.out];refine⟨_,_,h2.bt,?_,h2.rs⟩;have:=h2.own;rw[HN.out]at this;show World.ownsRow _ _ _ _ _ (KS++[x.1.2.2]).length _;rw[List.length_append,List.length_singleton,<-HN.out];exact h2.own
 case done =>
  rintro D ys W hD hys ⟨⟨v,vs,hbt,hown,hrs⟩,hLo⟩ hK
  have HE:Hid (dpL R=ys.map fun x=>x.1.2.2):=by
   show _=_;unfold dpL;rw[<-hys,List.map_map];rfl
  have hBw:Hid (Below w.heap.size w W):=hLo.below hB0 (by have:=HKw.out;omega) hB0.size;have hP:Hid (W.ownsRow W0.heap.size 22 1 v (ys.map fun x=>x.1.2.2).length vs/\RsO (Out W0.heap.size v) W vs (ys.map fun x=>x.1.2.2)):=⟨hown,hrs⟩;have t0:W.cell? ⟨K,0,none⟩=some v:=hbt.cell 0;clear hbt hown hrs hLo hys
  gi_wp2
  refine⟨by simp,.inl ⟨_,_,rfl,run_takeDeferred hK,?_⟩⟩;have hgp:=grownBy_putObj' W D (.deferred none);have hrp:∀ r,some D=some r->∃ o:Obj,W.heap[r]?=some o/\o.isCells=false:=fun r e=>by cases e;exact⟨_,hK,rfl⟩
  have g1:=own_keptG hP.out.1 hgp hrp;have g2:=hP.out.2.all (fun _ _ q=>q.kept hgp hrp);refine⟨v,by simp[results,Tryz.results8,go_sem],?_⟩;rw[HE.out];exact⟨v,vs,rfl,⟨g1.mono hB0.size,g2.b⟩,hBw.out.trans (belowK_b (w:=w) (Nat.le_refl _) _ D _ _ (Nat.le_trans hB0.size hD) hK rfl rfl)⟩
 case stop =>
  rintro D c pre W hD hpre ⟨h,_⟩ hK;exact h.elim
end Lod
end Go.Proofs.YtalijhclfppohaaGreatDoor
