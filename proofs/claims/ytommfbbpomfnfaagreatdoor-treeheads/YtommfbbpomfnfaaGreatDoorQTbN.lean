/- . -/
import Derived.Test.YtommfbbpomfnfaaGreatDoorQTbO
import Derived.Test.YtommfbbpomfnfaaGreatDoorQFbP
import Derived.Test.YtommfbbpomfnfaaGreatDoorQFbN
set_option linter.unusedSimpArgs false
set_option linter.unusedVariables false
set_option maxRecDepth 100000
namespace Go.Proofs.YtommfbbpomfnfaaGreatDoor
namespace Tre
open Utf Rws Pln Flw
open Go.RowKit
set_option maxHeartbeats 4000000
abbrev fV (y z:Int):Value:=.agg #[.int .i64 y,.int .i64 z]
abbrev rV (c:Int) (x:Ln) (z:Int):Value:=.agg #[.int .i64 c,.string (mk x),.int .i64 z]
theorem faultOf_any (y c:Int) (x:Ln) (z:Int) (w:World):Calls Tryz.prog 109 #[.int .i64 y,rV c x z] w fun e w'=>e=.returned (fV y z)/\Below w.heap.size w w':=by
 go_enter Tryz.func109,Tryz.ntmps109;go_wp2;exact bodyPost_ret (v:=fV y z) (by simp[results,Tryz.results109,go_sem]) rfl ⟨rfl,(below_alloc _ _).trans ((below_alloc _ _).mono (by simp))⟩
def onB (p:Pp) (k:Int):Bool:=p.tag != 0 && p.tag != k
theorem on_yes (p:Pp) (k:Int) (x a:Ln) (ad:Option Addr) (len cap:Nat) (c:Int) (tx:Ln) (z:Int) (w:World) (h:onB p k=false) :
  Calls Tryz.prog 118 #[pV p,tv k x a ad len cap,rV c tx z] w fun e w'=>e=.returned (.tuple #[tv k x p.anc ad len cap,fV 0 0])/\Below w.heap.size w w':=by
 obtain⟨pa,pt⟩:=p
 have HB:Hid (∀ c0 t0 c1 t1 c2 t2 c3 t3 c4 t4,Below w.heap.size w (((((w.alloc (.cells c0 t0)).alloc (.cells c1 t1)).alloc (.cells c2 t2)).alloc (.cells c3 t3)).alloc (.cells c4 t4))):=fun c0 t0 c1 t1 c2 t2 c3 t3 c4 t4 =>
  ((((below_alloc w _).alloc (by simp) _).alloc (by simp;omega) _).alloc (by simp;omega) _).alloc (by simp;omega) _
 by_cases ht:pt=0
 ·subst ht;clear h;go_enter Tryz.func118,Tryz.ntmps118;go_wp2;exact bodyPost_ret (v:=.tuple #[tv k x pa ad len cap,fV 0 0]) (by simp[results,Tryz.results118,go_sem]) rfl ⟨rfl,HB.out _ _ _ _ _ _ _ _ _ _⟩
 ·have ht0:(pt != 0)=true:=by simpa using ht
  have hk:(pt != k)=false:=by unfold onB at h;simp only at h;rw[ht0]at h;simpa using h
  have hk2:pt=k:=by simpa using hk
  subst hk2;clear h hk;go_enter Tryz.func118,Tryz.ntmps118;go_wp2;exact bodyPost_ret (v:=.tuple #[tv pt x pa ad len cap,fV 0 0]) (by simp[results,Tryz.results118,go_sem]) rfl ⟨rfl,HB.out _ _ _ _ _ _ _ _ _ _⟩
theorem five_new (w:World) (c0 c1 c2 c3 c4:Array Value) (t0 t1 t2 t3 t4:TypeId) :
  Below w.heap.size w (((((w.alloc (.cells c0 t0)).alloc (.cells c1 t1)).alloc (.cells c2 t2)).alloc (.cells c3 t3)).alloc (.cells c4 t4)) /\
  Bx (((((w.alloc (.cells c0 t0)).alloc (.cells c1 t1)).alloc (.cells c2 t2)).alloc (.cells c3 t3)).alloc (.cells c4 t4)) (w.heap.size+1+1+1) c3 t3 /\
  Bx (((((w.alloc (.cells c0 t0)).alloc (.cells c1 t1)).alloc (.cells c2 t2)).alloc (.cells c3 t3)).alloc (.cells c4 t4)) (w.heap.size+1+1+1+1) c4 t4 /\
  Bx (((((w.alloc (.cells c0 t0)).alloc (.cells c1 t1)).alloc (.cells c2 t2)).alloc (.cells c3 t3)).alloc (.cells c4 t4)) w.heap.size c0 t0 /\
  Bx (((((w.alloc (.cells c0 t0)).alloc (.cells c1 t1)).alloc (.cells c2 t2)).alloc (.cells c3 t3)).alloc (.cells c4 t4)) (w.heap.size+1) c1 t1 /\
  Bx (((((w.alloc (.cells c0 t0)).alloc (.cells c1 t1)).alloc (.cells c2 t2)).alloc (.cells c3 t3)).alloc (.cells c4 t4)) (w.heap.size+1+1) c2 t2:=by
 have s1:(w.alloc (.cells c0 t0)).heap.size=w.heap.size+1:=World.size_alloc _ _;have s2:((w.alloc (.cells c0 t0)).alloc (.cells c1 t1)).heap.size=w.heap.size+1+1:=by rw[World.size_alloc,s1]
 have s3:(((w.alloc (.cells c0 t0)).alloc (.cells c1 t1)).alloc (.cells c2 t2)).heap.size=w.heap.size+1+1+1:=by rw[World.size_alloc,s2]
 have s4:((((w.alloc (.cells c0 t0)).alloc (.cells c1 t1)).alloc (.cells c2 t2)).alloc (.cells c3 t3)).heap.size=w.heap.size+1+1+1+1:=by rw[World.size_alloc,s3]
 have b1:=below_alloc w (.cells c0 t0);have b2:=below_alloc (w.alloc (.cells c0 t0)) (.cells c1 t1);have b3:=below_alloc ((w.alloc (.cells c0 t0)).alloc (.cells c1 t1)) (.cells c2 t2);have b4:=below_alloc (((w.alloc (.cells c0 t0)).alloc (.cells c1 t1)).alloc (.cells c2 t2)) (.cells c3 t3);have b5:=below_alloc ((((w.alloc (.cells c0 t0)).alloc (.cells c1 t1)).alloc (.cells c2 t2)).alloc (.cells c3 t3)) (.cells c4 t4);have n0:=(((Bx.new w c0 t0).later b2).later b3).later b4 |>.later b5
 have n1:=((Bx.new (w.alloc (.cells c0 t0)) c1 t1).later b3).later b4 |>.later b5
 have n2:=((Bx.new ((w.alloc (.cells c0 t0)).alloc (.cells c1 t1)) c2 t2).later b4).later b5;have n3:=(Bx.new (((w.alloc (.cells c0 t0)).alloc (.cells c1 t1)).alloc (.cells c2 t2)) c3 t3).later b5;have n4:=Bx.new ((((w.alloc (.cells c0 t0)).alloc (.cells c1 t1)).alloc (.cells c2 t2)).alloc (.cells c3 t3)) c4 t4;rw[s1]at n1;rw[s2]at n2;rw[s3]at n3;rw[s4]at n4;have a2:=b1.trans (b2.mono b1.size);have a3:=a2.trans (b3.mono a2.size);have a4:=a3.trans (b4.mono a3.size);exact⟨a4.trans (b5.mono a4.size),n3,n4,n0,n1,n2⟩
theorem fill6_is {w w6:World} {B K3 K4:Nat} (h3:Bx w6 K3 zT 26) (h4:Bx w6 K4 #[.int .i64 0,.int .i64 0] 34) (hne:K3≠K4) (hb:Below B w w6) (hB3:B<=K3) (hB4:B<=K4) (x0 x1 x2 x3 y0 y1:Value) :
  Below B w (fill6 w6 K3 K4 x0 x1 x2 x3 y0 y1)/\Bx (fill6 w6 K3 K4 x0 x1 x2 x3 y0 y1) K3 #[x0,x1,x2,x3] 26/\Bx (fill6 w6 K3 K4 x0 x1 x2 x3 y0 y1) K4 #[y0,y1] 34:=by
 refine⟨((below_fill4 hb hB3 x0 x1 x2 x3).setCell (by show _<=K4;omega) _).setCell (by show _<=K4;omega) _,((h3.fill4 rfl x0 x1 x2 x3).other hne _ _).other hne _ _,?_⟩;exact((h4.fill4o (fun e=>hne e.symm) x0 x1 x2 x3).set 0 y0).set 1 y1
def C6 (w:World) (K3 K4:Nat):Prop:=w.cell? ⟨K3,0,none⟩=some (.int .i64 0)/\w.cell? ⟨K3,1,none⟩=some (.string ⟨#[]⟩)/\w.cell? ⟨K3,2,none⟩=some (.string ⟨#[]⟩)/\w.cell? ⟨K3,3,none⟩=some (.slice none 0 0)/\w.cell? ⟨K4,0,none⟩=some (.int .i64 0)/\w.cell? ⟨K4,1,none⟩=some (.int .i64 0) /\
 w.frozen? ⟨K3,0,none⟩=false/\w.frozen? ⟨K3,1,none⟩=false/\w.frozen? ⟨K3,2,none⟩=false/\w.frozen? ⟨K3,3,none⟩=false/\w.frozen? ⟨K4,0,none⟩=false/\w.frozen? ⟨K4,1,none⟩=false
theorem c6_of {w:World} {K3 K4:Nat} (h3:Bx w K3 zT 26) (h4:Bx w K4 #[.int .i64 0,.int .i64 0] 34):C6 w K3 K4:=⟨h3.cell 0,h3.cell 1,h3.cell 2,h3.cell 3,h4.cell 0,h4.cell 1,h3.fz 0,h3.fz 1,h3.fz 2,h3.fz 3,h4.fz 0,h4.fz 1⟩
theorem on_no (p:Pp) (k:Int) (x a:Ln) (ad:Option Addr) (len cap:Nat) (c:Int) (tx:Ln) (z:Int) (w:World) (h:onB p k=true) :
  Calls Tryz.prog 118 #[pV p,tv k x a ad len cap,rV c tx z] w fun e w'=>e=.returned (.tuple #[.agg zT,fV 12 z])/\Below w.heap.size w w':=by
 obtain⟨pa,pt⟩:=p;unfold onB at h;simp only[Bool.and_eq_true]at h;have ht0:(pt != 0)=true:=h.1;have hk:(pt != k)=true:=h.2;have N5:Hid (_/\_/\_/\_/\_/\_):=five_new w #[.string (mk pa),.int .i64 pt] #[.int .i64 k,.string (mk x),.string (mk a),.slice ad len cap] #[.int .i64 c,.string (mk tx),.int .i64 z] zT #[.int .i64 0,.int .i64 0] 77 26 40 26 34;clear h;go_enter Tryz.func118,Tryz.ntmps118;go_wp2_with fail;change Calls _ _ _ (((((w.alloc (.cells #[.string (mk pa),.int .i64 pt] 77)).alloc (.cells #[.int .i64 k,.string (mk x),.string (mk a),.slice ad len cap] 26)).alloc (.cells #[.int .i64 c,.string (mk tx),.int .i64 z] 40)).alloc (.cells zT 26)).alloc (.cells #[.int .i64 0,.int .i64 0] 34)) _;generalize ((((w.alloc (.cells #[.string (mk pa),.int .i64 pt] 77)).alloc (.cells #[.int .i64 k,.string (mk x),.string (mk a),.slice ad len cap] 26)).alloc (.cells #[.int .i64 c,.string (mk tx),.int .i64 z] 40)).alloc (.cells zT 26)).alloc (.cells #[.int .i64 0,.int .i64 0] 34)=W5 at N5 |-;obtain⟨K4,hK4⟩:∃ K4,K4=w.heap.size+1+1+1+1:=⟨_,rfl⟩;obtain⟨K3,hK3⟩:∃ K3,K3=w.heap.size+1+1+1:=⟨_,rfl⟩;rw[<-hK4,<-hK3]at N5;rw[<-hK4,<-hK3];have M5:Hid (Below w.heap.size w W5/\Bx W5 K3 zT 26/\Bx W5 K4 #[.int .i64 0,.int .i64 0] 34):=⟨N5.out.1,N5.out.2.1,N5.out.2.2.1⟩;have hne:K3≠K4:=by omega
 have hne':K4≠K3:=by omega
 have hle3:w.heap.size<=K3:=by omega
 have hle4:w.heap.size<=K4:=by omega
 clear N5 hK4 hK3;refine(faultOf_any 12 c tx z W5).mono ?_;rintro e w6 ⟨rfl,H6⟩;have B6:Hid (Below w.heap.size w w6/\Bx w6 K3 zT 26/\Bx w6 K4 #[.int .i64 0,.int .i64 0] 34):=⟨M5.out.1.trans (H6.mono M5.out.1.size),M5.out.2.1.later H6,M5.out.2.2.later H6⟩;clear M5 H6;obtain⟨c0,c1,c2,c3,c4,c5,z0,z1,z2,z3,z4,z5⟩:=c6_of B6.out.2.1 B6.out.2.2;have HF:Hid (_/\_/\_):=fill6_is B6.out.2.1 B6.out.2.2 (by omega) B6.out.1 (by omega) (by omega) (.int .i64 0) (.string ⟨#[]⟩) (.string ⟨#[]⟩) (.slice none 0 0) (.int .i64 12) (.int .i64 z);clear B6;go_wp2;change bodyPost _ _ _ _ _ (fill6 w6 K3 K4 (.int .i64 0) (.string ⟨#[]⟩) (.string ⟨#[]⟩) (.slice none 0 0) (.int .i64 12) (.int .i64 z));generalize fill6 w6 K3 K4 (.int .i64 0) (.string ⟨#[]⟩) (.string ⟨#[]⟩) (.slice none 0 0) (.int .i64 12) (.int .i64 z)=WF at HF |-;obtain⟨j0,j1,j2,j3⟩:=HF.out.2.1.c4;obtain⟨j4,j5⟩:=HF.out.2.2.c2;exact bodyPost_ret (v:=.tuple #[.agg #[.int .i64 0,.string ⟨#[]⟩,.string ⟨#[]⟩,.slice none 0 0],.agg #[.int .i64 12,.int .i64 z]]) (by simp[results,Tryz.results118,go_sem,j0,j1,j2,j3,j4,j5]) rfl ⟨rfl,HF.out.1⟩
end Tre
namespace Tre
open Utf Rws Pln Flw
open Go.RowKit
set_option maxHeartbeats 4000000
def orB (p:Pp) (k:Int) (a:Ln):Bool:=a != [] || (k != 5 && k != 6 && p.tag != 0)
theorem onRows_none (k:Int) (x a:Ln) (ad:Option Addr) (len cap:Nat) (c:Int) (tx:Ln) (z:Int) (w:World) :
  Calls Tryz.prog 72 #[pV ⟨[],0⟩,tv k x a ad len cap,rV c tx z] w fun e w'=>e=.returned (.tuple #[tv k x a ad len cap,fV 0 0])/\Below w.heap.size w w':=by
 have he:=eql_props (mk []) ⟨#[]⟩ 0 0;rw[show ((mk []).toList==(⟨#[]⟩:ByteArray).toList && (0:Int)==0)=true by rw[ByteArray.toList_eq,ByteArray.toList_eq];rfl]at he;have HB:Hid (∀ c0 t0 c1 t1 c2 t2 c3 t3 c4 t4,Below w.heap.size w (((((w.alloc (.cells c0 t0)).alloc (.cells c1 t1)).alloc (.cells c2 t2)).alloc (.cells c3 t3)).alloc (.cells c4 t4))):=fun c0 t0 c1 t1 c2 t2 c3 t3 c4 t4=>(five_new w c0 c1 c2 c3 c4 t0 t1 t2 t3 t4).1
 go_enter Tryz.func72,Tryz.ntmps72;go_wp2;exact bodyPost_ret (v:=.tuple #[tv k x a ad len cap,fV 0 0]) (by simp[results,Tryz.results72,go_sem]) rfl ⟨rfl,HB.out _ _ _ _ _ _ _ _ _ _⟩
theorem five_call {f:FuncId} {args:Array Value} {E:Ending} {w:World} (h:∀ w0,Calls Tryz.prog f args w0 fun e w'=>e=E/\Below w0.heap.size w0 w') (c0 c1 c2:Array Value) (t0 t1 t2:TypeId) :
  Calls Tryz.prog f args (((((w.alloc (.cells c0 t0)).alloc (.cells c1 t1)).alloc (.cells c2 t2)).alloc (.cells zT 26)).alloc (.cells #[.int .i64 0,.int .i64 0] 34)) fun e w'=>e=E/\Hid (Below w.heap.size w w'/\Bx w' (w.heap.size+1+1+1) zT 26/\Bx w' (w.heap.size+1+1+1+1) #[.int .i64 0,.int .i64 0] 34) :=
 have n:=five_new w c0 c1 c2 zT #[.int .i64 0,.int .i64 0] t0 t1 t2 26 34
 (h _).mono fun e w' g=>⟨g.1,n.1.trans (g.2.mono n.1.size),n.2.1.later g.2,n.2.2.1.later g.2⟩
theorem onRows_bad (p:Pp) (k:Int) (x a:Ln) (ad:Option Addr) (len cap:Nat) (c:Int) (tx:Ln) (z:Int) (w:World) (hp:samePp p ⟨[],0⟩=false) (h:orB p k a=true):Calls Tryz.prog 72 #[pV p,tv k x a ad len cap,rV c tx z] w fun e w'=>e=.returned (.tuple #[.agg zT,fV 3 z])/\Below w.heap.size w w':=by
 obtain⟨pa,pt⟩:=p;have he:=eql_props (mk pa) ⟨#[]⟩ pt 0;rw[show ((mk pa).toList==(⟨#[]⟩:ByteArray).toList && pt==0)=false by rw[ByteArray.toList_eq,mk_data,ByteArray.toList_eq];exact hp]at he;have e1:((mk a).toList==[])=(a==[]):=by rw[ByteArray.toList_eq,mk_data]
 have e2:(mk a).toList.isEmpty=(a==[]):=by rw[ByteArray.toList_eq,mk_data];cases a<;>rfl
 have hc:(a==[])=false/\(k=5\/k=6\/(k != 5)=true/\(k != 6)=true)\/(a==[])=true/\(k != 5)=true/\(k != 6)=true/\(pt != 0)=true:=by
  unfold orB at h;by_cases ha:a=[]
  ·subst ha;simp only[bne_self_eq_false,Bool.false_or,Bool.and_eq_true]at h;exact .inr ⟨rfl,h.1.1,h.1.2,h.2⟩
  ·refine .inl ⟨by simpa using ha,?_⟩;by_cases h5:k=5
   ·exact .inl h5
   by_cases h6:k=6
   ·exact .inr (.inl h6)
   ·exact .inr (.inr ⟨by simpa using h5,by simpa using h6⟩)
 clear h hp;rcases hc with ⟨ha,rfl | rfl | ⟨q5,q6⟩⟩ | ⟨ha,q5,q6,qt⟩
 all_goals
  rw[ha]at e1 e2;clear ha;go_enter Tryz.func72,Tryz.ntmps72;go_wp2_with fail;refine(five_call (faultOf_any 3 c tx z) _ _ _ _ _ _).mono ?_;rintro e w6 ⟨rfl,B6⟩;obtain⟨K4,hK4⟩:∃ K4,K4=w.heap.size+1+1+1+1:=⟨_,rfl⟩;obtain⟨K3,hK3⟩:∃ K3,K3=w.heap.size+1+1+1:=⟨_,rfl⟩;rw[<-hK4,<-hK3]at B6 |-;have hne:K3≠K4:=by omega
  have hne':K4≠K3:=by omega
  have hle3:w.heap.size<=K3:=by omega
  have hle4:w.heap.size<=K4:=by omega
  clear hK4 hK3;obtain⟨c0,c1,c2,c3,c4,c5,z0,z1,z2,z3,z4,z5⟩:=c6_of B6.out.2.1 B6.out.2.2;have HF:Hid (_/\_/\_):=fill6_is B6.out.2.1 B6.out.2.2 (by omega) B6.out.1 (by omega) (by omega) (.int .i64 0) (.string ⟨#[]⟩) (.string ⟨#[]⟩) (.slice none 0 0) (.int .i64 3) (.int .i64 z);clear B6;go_wp2;change bodyPost _ _ _ _ _ (fill6 w6 K3 K4 (.int .i64 0) (.string ⟨#[]⟩) (.string ⟨#[]⟩) (.slice none 0 0) (.int .i64 3) (.int .i64 z));generalize fill6 w6 K3 K4 (.int .i64 0) (.string ⟨#[]⟩) (.string ⟨#[]⟩) (.slice none 0 0) (.int .i64 3) (.int .i64 z)=WF at HF |-;obtain⟨j0,j1,j2,j3⟩:=HF.out.2.1.c4;obtain⟨j4,j5⟩:=HF.out.2.2.c2;exact bodyPost_ret (v:=.tuple #[.agg #[.int .i64 0,.string ⟨#[]⟩,.string ⟨#[]⟩,.slice none 0 0],.agg #[.int .i64 3,.int .i64 z]]) (by simp[results,Tryz.results72,go_sem,j0,j1,j2,j3,j4,j5]) rfl ⟨rfl,HF.out.1⟩
theorem onRows_of (p:Pp) (k:Int) (x:Ln) (ad:Option Addr) (len cap:Nat) (c:Int) (tx:Ln) (z:Int) (w:World) (hp:samePp p ⟨[],0⟩=false) (h:orB p k []=false) {K Y Z:Int} {X A:ByteArray} {AD:Option Addr} {LN CP:Nat} (HON:Hid (∀ w0,Calls Tryz.prog 118 #[pV p,tv k x [] ad len cap,rV c tx z] w0 fun e w'=>e=.returned (.tuple #[.agg #[.int .i64 K,.string X,.string A,.slice AD LN CP],.agg #[.int .i64 Y,.int .i64 Z]])/\Below w0.heap.size w0 w')) :
  Calls Tryz.prog 72 #[pV p,tv k x [] ad len cap,rV c tx z] w fun e w'=>e=.returned (.tuple #[.agg #[.int .i64 K,.string X,.string A,.slice AD LN CP],.agg #[.int .i64 Y,.int .i64 Z]])/\Below w.heap.size w w':=by
 obtain⟨pa,pt⟩:=p;have he:=eql_props (mk pa) ⟨#[]⟩ pt 0;rw[show ((mk pa).toList==(⟨#[]⟩:ByteArray).toList && pt==0)=false by rw[ByteArray.toList_eq,mk_data,ByteArray.toList_eq];exact hp]at he;have e1:((mk []).toList==[])=true:=by rw[ByteArray.toList_eq,mk_data];rfl
 have e2:(mk []).toList.isEmpty=true:=by rw[ByteArray.toList_eq,mk_data];rfl
 have hc:k=5\/k=6\/(k != 5)=true/\(k != 6)=true/\pt=0:=by
  by_cases h5:k=5
  ·exact .inl h5
  by_cases h6:k=6
  ·exact .inr (.inl h6)
  ·refine .inr (.inr ⟨by simpa using h5,by simpa using h6,?_⟩);unfold orB at h;simp only[Bool.or_eq_false_iff]at h;simpa [h5,h6]using h.2
 clear h hp;rcases hc with rfl | rfl | ⟨q5,q6,rfl⟩
 all_goals
  go_enter Tryz.func72,Tryz.ntmps72;go_wp2_with fail;refine(five_call HON.out _ _ _ _ _ _).mono ?_;rintro e w6 ⟨rfl,B6⟩;obtain⟨K4,hK4⟩:∃ K4,K4=w.heap.size+1+1+1+1:=⟨_,rfl⟩;obtain⟨K3,hK3⟩:∃ K3,K3=w.heap.size+1+1+1:=⟨_,rfl⟩;rw[<-hK4,<-hK3]at B6 |-;have hne:K3≠K4:=by omega
  have hne':K4≠K3:=by omega
  have hle3:w.heap.size<=K3:=by omega
  have hle4:w.heap.size<=K4:=by omega
  clear hK4 hK3;obtain⟨c0,c1,c2,c3,c4,c5,z0,z1,z2,z3,z4,z5⟩:=c6_of B6.out.2.1 B6.out.2.2;have HF:Hid (_/\_/\_):=fill6_is B6.out.2.1 B6.out.2.2 (by omega) B6.out.1 (by omega) (by omega) (.int .i64 K) (.string X) (.string A) (.slice AD LN CP) (.int .i64 Y) (.int .i64 Z);clear B6;go_wp2;change bodyPost _ _ _ _ _ (fill6 w6 K3 K4 (.int .i64 K) (.string X) (.string A) (.slice AD LN CP) (.int .i64 Y) (.int .i64 Z));generalize fill6 w6 K3 K4 (.int .i64 K) (.string X) (.string A) (.slice AD LN CP) (.int .i64 Y) (.int .i64 Z)=WF at HF |-;obtain⟨j0,j1,j2,j3⟩:=HF.out.2.1.c4;obtain⟨j4,j5⟩:=HF.out.2.2.c2;exact bodyPost_ret (v:=.tuple #[.agg #[.int .i64 K,.string X,.string A,.slice AD LN CP],.agg #[.int .i64 Y,.int .i64 Z]]) (by simp[results,Tryz.results72,go_sem,j0,j1,j2,j3,j4,j5]) rfl ⟨rfl,HF.out.1⟩
theorem onRows_yes (p:Pp) (k:Int) (x a:Ln) (ad:Option Addr) (len cap:Nat) (c:Int) (tx:Ln) (z:Int) (w:World) (hp:samePp p ⟨[],0⟩=false) (h:orB p k a=false) (ho:onB p k=false):Calls Tryz.prog 72 #[pV p,tv k x a ad len cap,rV c tx z] w fun e w'=>e=.returned (.tuple #[tv k x p.anc ad len cap,fV 0 0])/\Below w.heap.size w w':=by
 obtain rfl:a=[]:=by
  unfold orB at h;simp only[Bool.or_eq_false_iff]at h;simpa using h.1
 exact onRows_of p k x ad len cap c tx z w hp h (fun w0=>on_yes p k x [] ad len cap c tx z w0 ho)
theorem onRows_no (p:Pp) (k:Int) (x a:Ln) (ad:Option Addr) (len cap:Nat) (c:Int) (tx:Ln) (z:Int) (w:World) (hp:samePp p ⟨[],0⟩=false) (h:orB p k a=false) (ho:onB p k=true):Calls Tryz.prog 72 #[pV p,tv k x a ad len cap,rV c tx z] w fun e w'=>e=.returned (.tuple #[.agg zT,fV 12 z])/\Below w.heap.size w w':=by
 obtain rfl:a=[]:=by
  unfold orB at h;simp only[Bool.or_eq_false_iff]at h;simpa using h.1
 exact onRows_of p k x ad len cap c tx z w hp h (fun w0=>on_no p k x [] ad len cap c tx z w0 ho)
theorem four_new (w:World) (c0 c1 c2 c3:Array Value) (t0 t1 t2 t3:TypeId) :
  Below w.heap.size w ((((w.alloc (.cells c0 t0)).alloc (.cells c1 t1)).alloc (.cells c2 t2)).alloc (.cells c3 t3)) /\
  Bx ((((w.alloc (.cells c0 t0)).alloc (.cells c1 t1)).alloc (.cells c2 t2)).alloc (.cells c3 t3)) (w.heap.size+1+1) c2 t2 /\
  Bx ((((w.alloc (.cells c0 t0)).alloc (.cells c1 t1)).alloc (.cells c2 t2)).alloc (.cells c3 t3)) (w.heap.size+1+1+1) c3 t3:=by
 have s1:(w.alloc (.cells c0 t0)).heap.size=w.heap.size+1:=World.size_alloc _ _;have s2:((w.alloc (.cells c0 t0)).alloc (.cells c1 t1)).heap.size=w.heap.size+1+1:=by rw[World.size_alloc,s1]
 have s3:(((w.alloc (.cells c0 t0)).alloc (.cells c1 t1)).alloc (.cells c2 t2)).heap.size=w.heap.size+1+1+1:=by rw[World.size_alloc,s2]
 have b1:=below_alloc w (.cells c0 t0);have b2:=below_alloc (w.alloc (.cells c0 t0)) (.cells c1 t1);have b3:=below_alloc ((w.alloc (.cells c0 t0)).alloc (.cells c1 t1)) (.cells c2 t2);have b4:=below_alloc (((w.alloc (.cells c0 t0)).alloc (.cells c1 t1)).alloc (.cells c2 t2)) (.cells c3 t3);have n2:=(Bx.new ((w.alloc (.cells c0 t0)).alloc (.cells c1 t1)) c2 t2).later b4;have n3:=Bx.new (((w.alloc (.cells c0 t0)).alloc (.cells c1 t1)).alloc (.cells c2 t2)) c3 t3;rw[s2]at n2;rw[s3]at n3;have a2:=b1.trans (b2.mono b1.size);have a3:=a2.trans (b3.mono a2.size);exact⟨a3.trans (b4.mono a3.size),n2,n3⟩
def nuK (p:Pp):Int:=if p.tag=4 then 4 else 1
theorem four_call {f:FuncId} {args:Array Value} {E:Ending} {w:World} (h:∀ w0,Calls Tryz.prog f args w0 fun e w'=>e=E/\Below w0.heap.size w0 w') (c0 c1:Array Value) (t0 t1:TypeId) :
  Calls Tryz.prog f args ((((w.alloc (.cells c0 t0)).alloc (.cells c1 t1)).alloc (.cells zT 26)).alloc (.cells #[.int .i64 0,.int .i64 0] 34)) fun e w'=>e=E/\Hid (Below w.heap.size w w'/\Bx w' (w.heap.size+1+1) zT 26/\Bx w' (w.heap.size+1+1+1) #[.int .i64 0,.int .i64 0] 34) :=
 have n:=four_new w c0 c1 zT #[.int .i64 0,.int .i64 0] t0 t1 26 34
 (h _).mono fun e w' g=>⟨g.1,n.1.trans (g.2.mono n.1.size),n.2.1.later g.2,n.2.2.later g.2⟩
theorem onNothing_of (p:Pp) (c:Int) (tx:Ln) (z:Int) (w:World) {K Y Z:Int} {X A:ByteArray} {AD:Option Addr} {LN CP:Nat} (HON:Hid (∀ w0,Calls Tryz.prog 118 #[pV p,.agg #[.int .i64 (nuK p),.string ⟨#[]⟩,.string ⟨#[]⟩,.slice none 0 0],rV c tx z] w0 fun e w'=>e=.returned (.tuple #[.agg #[.int .i64 K,.string X,.string A,.slice AD LN CP],.agg #[.int .i64 Y,.int .i64 Z]])/\Below w0.heap.size w0 w')) :
  Calls Tryz.prog 70 #[pV p,rV c tx z] w fun e w'=>e=.returned (.tuple #[.agg #[.int .i64 K,.string X,.string A,.slice AD LN CP],.agg #[.int .i64 Y,.int .i64 Z]])/\Below w.heap.size w w':=by
 obtain⟨pa,pt⟩:=p
 have hc:pt=4\/(pt==4)=false:=by
  by_cases h4:pt=4
  ·exact .inl h4
  ·exact .inr (by simpa using h4)
 have hn:(pt==4)=false->nuK ⟨pa,pt⟩=1:=fun h=>if_neg (by simpa using h)
 rcases hc with rfl | q4
 all_goals
  first | rw[hn q4]at HON | rw[show nuK ⟨pa,4⟩=4 from rfl]at HON
  clear hn;go_enter Tryz.func70,Tryz.ntmps70;go_wp2_with fail;refine(four_call HON.out _ _ _ _).mono ?_;rintro e w6 ⟨rfl,B6⟩;obtain⟨K4,hK4⟩:∃ K4,K4=w.heap.size+1+1+1:=⟨_,rfl⟩;obtain⟨K3,hK3⟩:∃ K3,K3=w.heap.size+1+1:=⟨_,rfl⟩;rw[<-hK4,<-hK3]at B6 |-;have hne:K3≠K4:=by omega
  have hne':K4≠K3:=by omega
  have hle3:w.heap.size<=K3:=by omega
  have hle4:w.heap.size<=K4:=by omega
  clear hK4 hK3;obtain⟨c0,c1,c2,c3,c4,c5,z0,z1,z2,z3,z4,z5⟩:=c6_of B6.out.2.1 B6.out.2.2;have HF:Hid (_/\_/\_):=fill6_is B6.out.2.1 B6.out.2.2 (by omega) B6.out.1 (by omega) (by omega) (.int .i64 K) (.string X) (.string A) (.slice AD LN CP) (.int .i64 Y) (.int .i64 Z);clear B6;go_wp2;change bodyPost _ _ _ _ _ (fill6 w6 K3 K4 (.int .i64 K) (.string X) (.string A) (.slice AD LN CP) (.int .i64 Y) (.int .i64 Z));generalize fill6 w6 K3 K4 (.int .i64 K) (.string X) (.string A) (.slice AD LN CP) (.int .i64 Y) (.int .i64 Z)=WF at HF |-;obtain⟨j0,j1,j2,j3⟩:=HF.out.2.1.c4;obtain⟨j4,j5⟩:=HF.out.2.2.c2;exact bodyPost_ret (v:=.tuple #[.agg #[.int .i64 K,.string X,.string A,.slice AD LN CP],.agg #[.int .i64 Y,.int .i64 Z]]) (by simp[results,Tryz.results70,go_sem,j0,j1,j2,j3,j4,j5]) rfl ⟨rfl,HF.out.1⟩
theorem onNothing_yes (p:Pp) (c:Int) (tx:Ln) (z:Int) (w:World) (ho:onB p (nuK p)=false):Calls Tryz.prog 70 #[pV p,rV c tx z] w fun e w'=>e=.returned (.tuple #[tv (nuK p) [] p.anc none 0 0,fV 0 0])/\Below w.heap.size w w' :=
 onNothing_of p c tx z w (fun w0=>on_yes p (nuK p) [] [] none 0 0 c tx z w0 ho)
theorem onNothing_no (p:Pp) (c:Int) (tx:Ln) (z:Int) (w:World) (ho:onB p (nuK p)=true):Calls Tryz.prog 70 #[pV p,rV c tx z] w fun e w'=>e=.returned (.tuple #[.agg zT,fV 12 z])/\Below w.heap.size w w' :=
 onNothing_of p c tx z w (fun w0=>on_no p (nuK p) [] [] none 0 0 c tx z w0 ho)
end Tre
end Go.Proofs.YtommfbbpomfnfaaGreatDoor
