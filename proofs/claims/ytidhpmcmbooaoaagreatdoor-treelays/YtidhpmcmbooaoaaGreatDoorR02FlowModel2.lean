/- . -/
import Derived.Test.YtidhpmcmbooaoaaGreatDoorR01RowsPlain
set_option linter.unusedSimpArgs false
set_option linter.unusedVariables false
namespace Go.Proofs.YtidhpmcmbooaoaaGreatDoor
namespace Flw
open Utf Rws Pln
def Stop (f:Bool) (l:Ln):Prop:=l=[]\/(f=true/\fl (hd l)=true)
theorem fl_cases {c:UInt8} (h:fl c=true):c=44\/c=91\/c=93\/c=123\/c=125:=by
 unfold fl has flows at h;simp only[List.any_cons,List.any_nil,Bool.or_false,Bool.or_eq_true,beq_iff_eq]at h;rcases h with h | h | h | h | h<;>simp[h]
theorem fl_letter {c:UInt8} (h:fl c=true):letter c=false:=by
 rcases fl_cases h with rfl | rfl | rfl | rfl | rfl<;>decide
theorem Stop.letter {f:Bool} {l:Ln} (h:Stop f l):letter (hd l)=false:=by
 rcases h with rfl | ⟨_,h⟩
 ·decide
 ·exact fl_letter h
theorem cut_stop (t s:Ln) (c:UInt8) (h:isP t true=true) (hc:fl c=true):cutT (t++c::s) true=t:=by
 have hfin:fin (t++c::s) true=t.length:=by
  have hf:=isP_fin h;have g0:(t++c::s).getD t.length 0=c:=getD_app_right t (c::s) 0;refine fin_uniq _ _ _ (by simp) (fun j hj=> ?_) (.inr ?_)
  ·have hno:en t true j=false:=fin_no t true j (by omega);have g2:(t++c::s).getD j 0=t.getD j 0:=getD_app_left _ _ _ hj;have g3:(t++c::s).getD (j-1) 0=t.getD (j-1) 0:=getD_app_left _ _ _ (by omega);unfold en at hno |-;rw[g2,g3];by_cases c1:(t.getD j 0==58)=true
   ·rw[if_pos c1]at hno |-;simp only[Bool.or_eq_false_iff,Bool.and_eq_false_iff]at hno
    have hj1:j+1<t.length:=by
     have:=hno.1.1;simp at this;omega
    have g4:(t++c::s).getD (j+1) 0=t.getD (j+1) 0:=getD_app_left _ _ _ hj1;have e1:(j+1==(t++c::s).length)=false:=by simp;omega
    rw[g4,e1,hno.1.2];simp;rcases hno.2 with h2 | h2
    ·simp at h2
    ·simp at h2;simp[h2]
   ·rw[if_neg c1]at hno |-;exact hno
  ·unfold en;rw[g0];rcases fl_cases hc with rfl | rfl | rfl | rfl | rfl<;>simp[fl,has,flows]
 unfold cutT;rw[hfin,List.take_append_of_le_length (Nat.le_refl _),List.take_length];exact trR_keep is32 t (isP_ne h) (isP_last h)
theorem cut_Stop {t l:Ln} {f:Bool} (h:isP t true=true) (hs:Stop f l):cutT (t++l) f=t/\isP t f=true:=by
 have hf:isP t f=true:=by
  cases f
  ·exact isP_flow t h
  ·exact h
 refine⟨?_,hf⟩;rcases hs with rfl | ⟨rfl,hc⟩
 ·rw[List.append_nil];exact cutT_whole hf
 ·cases l with
  | nil=>exact absurd hc (by decide)
  | cons c s=>exact cut_stop t s c h hc
theorem isP_hd {t:Ln} {f:Bool} (h:isP t f=true):mrk (hd t)=false/\hd t≠32:=by
 unfold isP bg at h;simp only[Bool.and_eq_true,Bool.not_eq_true']at h;refine⟨h.1.1.2.1.2,?_⟩;have:=h.1.1.2.1.1.2;intro e;rw[show t.getD 0 0=hd t from rfl,e]at this;exact absurd this (by decide)
theorem hd_app {t:Ln} (l:Ln) (h:t≠[]):hd (t++l)=hd t:=by
 cases t with
 | nil=>exact absurd rfl h
 | cons b r=>rfl
theorem mrk_ne {c:UInt8} (h:mrk c=false):c≠42/\c≠91/\c≠123/\c≠39/\c≠34/\c≠38/\c≠33/\c≠44/\c≠93/\c≠125/\c≠58:=by
 refine⟨?_,?_,?_,?_,?_,?_,?_,?_,?_,?_,?_⟩<;> · rintro rfl;revert h;decide
theorem takeWhile_app (p:UInt8->Bool) (a l:Ln) (ha:a.all p=true) (hl:p (hd l)=false\/l=[]):(a++l).takeWhile p=a:=by
 induction a with
 | nil =>
  cases l with
  | nil=>rfl
  | cons b r =>
   rcases hl with hl | hl
   ·have:p b=false:=hl;simp[List.takeWhile,this]
   ·cases hl
 | cons b r ih =>
  simp only[List.all_cons,Bool.and_eq_true]at ha;rw[List.cons_append,List.takeWhile_cons_of_pos ha.1,ih ha.2]
theorem nam_app (a l:Ln) (h:isName a=true) (hl:letter (hd l)=false):nam (a++l)=.ok (a,l):=by
 unfold isName at h;simp only[Bool.and_eq_true,decide_eq_true_eq]at h
 have e:((a++l).takeWhile letter).take 32=a:=by
  rw[takeWhile_app letter a l h.1.1 (.inl hl),List.take_of_length_le h.2]
 unfold nam;rw[e,List.drop_left,if_neg];rintro(h1 | h1)
 ·omega
 ·rw[hl]at h1;cases h1
theorem prp_ancW (f:Bool) (a m:Ln) (ha:a=[]\/isName a=true) (h1:hd m≠32) (h2:hd m≠38) (h3:hd m≠33) :
  prp f 3 p0 (gaps (ancW a++m))=.ok (⟨a,0,0,!(a==[])⟩,m):=by
 have none_:∀ (n:Nat) (p:Pr),prp f (n+1) p m=.ok (p,m):=by
  intro n p;unfold prp;rw[if_neg (fun h=>h2 h.1),if_neg (fun h=>h3 h.1)]
 by_cases e:a=[]
 ·subst e;have:ancW []++m=m:=rfl;rw[this,gaps_of h1,none_];rfl
 ·have hn:isName a=true:=ha.resolve_left e;have e1:ancW a++m=38::(a++32::m):=by unfold ancW;rw[if_neg e];simp
  have e2:(a==[])=false:=by simpa using e
  rw[e1,gaps_cons _ (by decide),e2];unfold prp;rw[if_pos ⟨rfl,rfl⟩];show bnd (nam (a++32::m)) _=_;rw[nam_app a (32::m) hn (show letter 32=false by decide),bnd_ok]
  have eg:gap f (32::m)=.ok m:=by
   unfold gap;rw[if_neg (fun h=>h.2.1 rfl),gaps_32,gaps_of h1]
  show bnd (gap f (32::m)) _=_;rw[eg,bnd_ok,none_];rfl
theorem scl_cases {k:Int} {s:Ln} (h1:1<=k) (h4:k<=4) (ht:txt k s=true) :
  (isP (scl true k s) true=true/\∀ a,leaf (knd (scl true k s)) (scl true k s) a=⟨k,s,a,[]⟩)\/(k=4/\scl true k s=Quo.dbl s/\(dec s).2=none):=by
 have hk:k=1\/k=2\/k=3\/k=4:=by omega
 rcases hk with rfl | rfl | rfl | rfl
 ·left;have hs:s=[]:=by simpa [txt]using ht
  subst hs;exact⟨by decide +kernel,fun a=>rfl⟩
 ·left;have hs:s=[116,114,117,101]\/s=[102,97,108,115,101]:=by simpa [txt]using ht
  rcases hs with rfl | rfl
  ·exact⟨by decide +kernel,fun a=>rfl⟩
  ·exact⟨by decide +kernel,fun a=>rfl⟩
 ·left;have hs:knd s=3:=by simpa [txt]using ht
  have e:scl true 3 s=s:=rfl;rw[e,hs];refine⟨?_,fun a=>rfl⟩
  have hn:numB s=true:=by
   unfold knd at hs;split at hs
   ·cases hs
   ·split at hs
    ·cases hs
    ·split at hs
     ·assumption
     ·cases hs
  unfold numB at hn
  cases e2:numA s with
  | none=>rw[e2]at hn;cases hn
  | some v =>
   have:=(numA_some e2).1;rw[<-this];exact itoa_isP v true
 ·have hs:(dec s).2=none:=by simpa [txt]using ht
  by_cases c:isP s true=true/\knd s=4
  ·left;have e:scl true 4 s=s:=by unfold scl;simp[c]
   rw[e,c.2];exact⟨c.1,fun a=>rfl⟩
  ·right;refine⟨rfl,?_,hs⟩;unfold scl;simp[c,hs]
theorem dbl_hd (s:Ln):∃ r,Quo.dbl s=34::r:=⟨_,rfl⟩
theorem quoted_dbl (s l:Ln) (h:(dec s).2=none):quoted (Quo.dbl s++l)=.ok (s,l):=by
 unfold quoted;rw[Quo.rd_double s l h];simp
theorem body_scl {k:Int} {s:Ln} (h1:1<=k) (h4:k<=4) (ht:txt k s=true) (inner:Option (Ln->Ot (Tr × Ln))) (f:Bool) (p:Pr) (hp:p.tag=0) (l:Ln) (hs:Stop f l) :
  body inner f p (scl true k s++l)=.ok (⟨k,s,p.anc,[]⟩,l):=by
 rcases scl_cases h1 h4 ht with ⟨hP,hL⟩ | ⟨rfl,hd_,hdec⟩
 ·have hh:=isP_hd hP;have hne:=mrk_ne hh.1;have hc:=cut_Stop hP hs;have h0:=isP_ne hP;unfold body;rw[hd_app l h0,if_neg hne.1,if_neg (fun h=>h.elim hne.2.1 hne.2.2.1),if_neg (fun h=>h.elim hne.2.2.2.1 hne.2.2.2.2.1)];unfold plain;rw[hc.1,if_neg (fun h=>by rw[hc.2]at h;exact absurd h.2 (by decide)),List.drop_left,bnd_ok];unfold fits;simp only[hp];rw[if_neg (by decide),if_neg (by simp)];show bnd (Except.ok (leaf (knd (scl true k s)) (scl true k s) p.anc)) _=_;rw[hL,bnd_ok]
 ·rw[hd_];unfold body;obtain⟨r,er⟩:=dbl_hd s;have eh:hd (Quo.dbl s++l)=34:=by rw[er];rfl
  rw[eh,if_neg (by decide),if_neg (by decide),if_pos (.inr rfl),quoted_dbl s l hdec,bnd_ok];unfold fits;simp only[hp];rw[if_neg (by decide),if_neg (by simp),bnd_ok];rfl
theorem key_scl {k:Int} {s:Ln} (h1:1<=k) (h4:k<=4) (ht:txt k s=true) (l:Ln) :
  key (scl true k s++58::32::l)=.ok (⟨k,s,[],[]⟩,58::32::l):=by
 rcases scl_cases h1 h4 ht with ⟨hP,hL⟩ | ⟨rfl,hd_,hdec⟩
 ·have hh:=isP_hd hP;have hne:=mrk_ne hh.1;have h0:=isP_ne hP
  have hc:cutT (scl true k s++58::32::l) true=scl true k s:=by
   have:=(cut_ahead (scl true k s) l true hP).2;rw[List.append_assoc]at this;exact this
  unfold key;rw[hd_app _ h0,if_neg (fun h=>h.elim hne.2.2.2.1 hne.2.2.2.2.1)];unfold plain;rw[hc,if_neg (fun h=>by rw[hP]at h;exact absurd h.2 (by decide)),List.drop_left,bnd_ok];show (if scl true k s=[]then _ else _)=_;rw[if_neg h0,hL]
 ·rw[hd_];unfold key;obtain⟨r,er⟩:=dbl_hd s;have eh:hd (Quo.dbl s++58::32::l)=34:=by rw[er];rfl
  rw[eh,if_pos (.inr rfl),quoted_dbl s _ hdec,bnd_ok]
theorem scl_hd {k:Int} {s:Ln} (h1:1<=k) (h4:k<=4) (ht:txt k s=true) :
  scl true k s≠[]/\hd (scl true k s)≠32/\hd (scl true k s)≠38/\hd (scl true k s)≠33/\hd (scl true k s)≠44/\hd (scl true k s)≠93/\hd (scl true k s)≠125:=by
 rcases scl_cases h1 h4 ht with ⟨hP,_⟩ | ⟨rfl,hd_,hdec⟩
 ·have hh:=isP_hd hP;have hne:=mrk_ne hh.1;exact⟨isP_ne hP,hh.2,hne.2.2.2.2.2.1,hne.2.2.2.2.2.2.1,hne.2.2.2.2.2.2.2.1,hne.2.2.2.2.2.2.2.2.1,hne.2.2.2.2.2.2.2.2.2.1⟩
 ·rw[hd_];obtain⟨r,er⟩:=dbl_hd s;rw[er];simp only[hd_cons];exact⟨by simp,by decide,by decide,by decide,by decide,by decide,by decide⟩
theorem sep_two (map:Bool) (i:Nat):sep map (i+1+2)=sep map (i+1):=by
 unfold sep;rw[if_neg (show ¬ i+1+2=0 by omega),if_neg (show ¬ i+1=0 by omega)];have:(i+1+2) % 2=(i+1) % 2:=by omega
 rw[this]
theorem jn_two (map:Bool) (ks:List Ln):∀ i,jn map (i+1+2) ks=jn map (i+1) ks:=by
 induction ks with
 | nil=>intro i;rfl
 | cons k ks ih =>
  intro i;unfold jn;rw[sep_two,show i+1+2+1=(i+1)+1+2 from by omega,ih (i+1)]
theorem jn_seq (ks:List Ln):∀ i,jn false (i+1) ks=jn false 1 ks:=by
 induction ks with
 | nil=>intro i;rfl
 | cons k ks ih =>
  intro i;unfold jn;rw[ih (i+1),ih 1];rfl
theorem lst_32 (v:Ln->Ot (Tr × Ln)) (map:Bool) (n:Nat) (l:Ln):lst v map (n+1) (32::l)=lst v map (n+1) l:=by
 unfold lst;rw[gaps_32]
structure Good (v:Ln->Ot (Tr × Ln)) (w:Ln) (t:Tr):Prop where
 ne:w≠[]
 h32:hd w≠32
 h44:hd w≠44
 h93:hd w≠93
 h125:hd w≠125
 reads:∀ l,Stop true l->v (w++l)=.ok (t,l)
theorem lst_seq (v:Ln->Ot (Tr × Ln)) (w:Tr->Ln):∀ (ks:List Tr),(∀ k∈ks,Good v (w k) k)->∀ (n:Nat) (l:Ln),(jn false 0 (ks.map w)).length+1<=n ->
  lst v false n (jn false 0 (ks.map w)++93::l)=.ok (ks,l)
 | [],_,n,l,hn=>by
  obtain⟨n,rfl⟩:∃ m,n=m+1:=⟨n-1,by omega⟩;show lst v false (n+1) (93::l)=_;unfold lst;rw[gaps_cons l (by decide),if_pos (by rfl)];rfl
 | [k],hg,n,l,hn=>by
  obtain⟨n,rfl⟩:∃ m,n=m+1:=⟨n-1,by omega⟩;have g:=hg k (by simp);have e:jn false 0 ([k].map w)++93::l=w k++93::l:=by simp[jn,sep]
  rw[e];unfold lst;have e1:hd (w k++93::l)=hd (w k):=hd_app _ g.ne;rw[gaps_of (by rw[e1];exact g.h32),if_neg (by rw[e1];exact g.h93)]
  have e2:part v false (w k++93::l)=.ok ([k],93::l):=by
   unfold part;rw[if_neg (by decide),if_neg,g.reads (93::l) (.inr ⟨rfl,(show fl 93=true by decide)⟩),bnd_ok];rintro(h | h)
   ·exact g.ne (List.append_eq_nil_iff.1 h).1
   ·rw[e1]at h;exact g.h44 h
  rw[e2,bnd_ok];show (if hd (gaps (93::l))=44 then _ else _)=_;rw[gaps_cons l (by decide),if_neg (show ¬ hd (93::l)=44 from(by decide:(93:UInt8)≠44)),if_pos (by rfl)];rfl
 | k::k2::ks,hg,n,l,hn=>by
  obtain⟨n,rfl⟩:∃ m,n=m+1:=⟨n-1,by omega⟩;have g:=hg k (by simp)
  have ej:jn false 0 ((k::k2::ks).map w)=w k++44::32::jn false 0 ((k2::ks).map w):=by
   simp only[List.map_cons,jn,sep];rw[jn_seq _ 1];simp
  rw[ej]at hn;simp only[List.length_append,List.length_cons]at hn;obtain⟨n,rfl⟩:∃ m,n=m+1:=⟨n-1,by omega⟩;have ih:=lst_seq v w (k2::ks) (fun x hx=>hg x (by simp at hx |-;exact .inr hx)) (n+1) l (by omega);rw[ej,List.append_assoc,List.cons_append,List.cons_append];generalize jn false 0 ((k2::ks).map w)++93::l=m at ih |-;rw[lst];have e1:hd (w k++44::32::m)=hd (w k):=hd_app _ g.ne;rw[gaps_of (by rw[e1];exact g.h32),if_neg (by rw[e1];exact g.h93)]
  have e2:part v false (w k++44::32::m)=.ok ([k],44::32::m):=by
   unfold part;rw[if_neg (by decide),if_neg,g.reads (44::32::m) (.inr ⟨rfl,(show fl 44=true by decide)⟩),bnd_ok];rintro(h | h)
   ·exact g.ne (List.append_eq_nil_iff.1 h).1
   ·rw[e1]at h;exact g.h44 h
  rw[e2,bnd_ok];show (if hd (gaps (44::32::m))=44 then bnd (lst v false (n+1) ((gaps (44::32::m)).drop 1)) _ else _)=_;rw[gaps_cons _ (by decide),if_pos (by rfl)];show bnd (lst v false (n+1) (32::m)) _=_;rw[lst_32,ih,bnd_ok];rfl
structure GoodK (w:Ln) (t:Tr):Prop where
 ne:w≠[]
 h32:hd w≠32
 h125:hd w≠125
 reads:∀ l,key (w++58::32::l)=.ok (t,58::32::l)
theorem part_map (v:Ln->Ot (Tr × Ln)) (a b:Ln) (k x:Tr) (hv:∀ l,v (32::l)=v l) (hk:GoodK a k) (hx:Good v b x) (l:Ln) (hl:Stop true l) :
  part v true (a++58::32::(b++l))=.ok ([k,x],l):=by
 unfold part;rw[if_pos rfl,hk.reads,bnd_ok];show (if colon (gaps (58::32::(b++l)))=false then _ else bnd (v ((gaps (58::32::(b++l))).drop 1)) _)=_;rw[gaps_cons _ (by decide),if_neg]
 ·show bnd (v (32::(b++l))) _=_;rw[hv,hx.reads l hl,bnd_ok]
 ·unfold colon;simp[hd]
theorem lst_map (v:Ln->Ot (Tr × Ln)) (w:Tr->Ln) (hv:∀ l,v (32::l)=v l):∀ (ks:List Tr),ks.length % 2=0->(∀ k∈ks,Good v (w k) k)->keysOk 0 ks=true->(∀ k∈ks,isKey k=true->GoodK (w k) k) ->
  ∀ (n:Nat) (l:Ln),(jn true 0 (ks.map w)).length+1<=n->lst v true n (jn true 0 (ks.map w)++125::l)=.ok (ks,l)
 | [],_,_,_,_,n,l,hn=>by
  obtain⟨n,rfl⟩:∃ m,n=m+1:=⟨n-1,by omega⟩;show lst v true (n+1) (125::l)=_;unfold lst;rw[gaps_cons l (by decide),if_pos (by rfl)];rfl
 | [k],h2,_,_,_,n,l,hn=>by simp at h2
 | [k,x],h2,hg,hk,hK,n,l,hn=>by
  obtain⟨n,rfl⟩:∃ m,n=m+1:=⟨n-1,by omega⟩;have g:=hg x (by simp);have gk:=hK k (by simp) (by simp[keysOk]at hk;exact hk);have e:jn true 0 ([k,x].map w)++125::l=w k++58::32::(w x++125::l):=by simp[jn,sep]
  rw[e];unfold lst;have e1:hd (w k++58::32::(w x++125::l))=hd (w k):=hd_app _ gk.ne;rw[gaps_of (by rw[e1];exact gk.h32),if_neg (by rw[e1];exact gk.h125)];rw[part_map v (w k) (w x) k x hv gk g (125::l) (.inr ⟨rfl,(show fl 125=true by decide)⟩),bnd_ok];show (if hd (gaps (125::l))=44 then _ else _)=_;rw[gaps_cons l (by decide),if_neg (show ¬ hd (125::l)=44 from(by decide:(125:UInt8)≠44)),if_pos (by rfl)];rfl
 | k::x::k2::ks,h2,hg,hk,hK,n,l,hn=>by
  obtain⟨n,rfl⟩:∃ m,n=m+1:=⟨n-1,by omega⟩;have g:=hg x (by simp);have gk:=hK k (by simp) (by simp[keysOk]at hk;exact hk.1)
  have hk2:keysOk 0 (k2::ks)=true:=by
   have e2:∀ (q:List Tr) (i:Nat),keysOk (i+2) q=keysOk i q:=by
    intro q
    induction q with
    | nil=>intro i;rfl
    | cons y ys ih=>intro i;unfold keysOk;rw[show i+2+1=i+1+2 from by omega,ih (i+1),Nat.add_mod_right]
   have:=hk;rw[keysOk,keysOk]at this;simp only[Bool.and_eq_true]at this;rw[<-e2];exact this.2.2
  have ej:jn true 0 ((k::x::k2::ks).map w)=w k++58::32::(w x++44::32::jn true 0 ((k2::ks).map w)):=by
   simp only[List.map_cons,jn,sep];rw[show jn true (0+1+1+1) (ks.map w)=jn true (0+1) (ks.map w)from jn_two true _ 0];simp
  rw[ej]at hn;simp only[List.length_append,List.length_cons]at hn;obtain⟨n,rfl⟩:∃ m,n=m+1:=⟨n-1,by omega⟩;have ih:=lst_map v w hv (k2::ks) (by simp only[List.length_cons]at h2 |-;omega) (fun y hy=>hg y (by simp at hy |-;exact .inr (.inr hy))) hk2 (fun y hy=>hK y (by simp at hy |-;exact .inr (.inr hy))) (n+1) l (by omega);rw[ej,List.append_assoc,List.cons_append,List.cons_append,List.append_assoc,List.cons_append,List.cons_append];generalize jn true 0 ((k2::ks).map w)++125::l=m at ih |-;rw[lst];have e1:hd (w k++58::32::(w x++44::32::m))=hd (w k):=hd_app _ gk.ne;rw[gaps_of (by rw[e1];exact gk.h32),if_neg (by rw[e1];exact gk.h125)];rw[part_map v (w k) (w x) k x hv gk g (44::32::m) (.inr ⟨rfl,(show fl 44=true by decide)⟩),bnd_ok];show (if hd (gaps (44::32::m))=44 then bnd (lst v true (n+1) ((gaps (44::32::m)).drop 1)) _ else _)=_;rw[gaps_cons _ (by decide),if_pos (by rfl)];show bnd (lst v true (n+1) (32::m)) _=_;rw[lst_32,ih,bnd_ok];rfl
theorem ancW_app {a m:Ln} (h:a≠[]):ancW a++m=38::(a++32::m):=by unfold ancW;rw[if_neg h];simp
theorem rstep_inv {inner:Option (Tr->Bool)} {t:Tr} (h:rstep inner t=true) :
  1<=t.kind/\t.kind<=7/\(t.anc=[]/\t.kind≠7\/isName t.anc=true)/\txt t.kind t.text=true/\((t.kind≠5/\t.kind≠6)->t.kids=[]) /\
   ((t.kind=5\/t.kind=6)->∃ v,inner=some v/\(t.kind=6->t.kids.length % 2=0/\keysOk 0 t.kids=true)/\∀ k∈t.kids,v k=true):=by
 unfold rstep at h;simp only[Bool.and_eq_true,decide_eq_true_eq]at h;obtain⟨⟨⟨⟨h1,h7⟩,ha⟩,ht⟩,hk⟩:=h;refine⟨h1,h7,?_,ht,?_,?_⟩
 ·simpa using ha
 ·intro hn;rw[if_pos hn]at hk;simpa using hk
 ·intro hy;rw[if_neg (by omega)]at hk
  cases inner with
  | none=>cases hk
  | some v =>
   simp only[Bool.and_eq_true,List.all_eq_true]at hk;refine⟨v,rfl,fun h6=> ?_,hk.2⟩;have:=hk.1;simpa [h6]using this
theorem isName_hd {a:Ln} (h:isName a=true):a≠[]:=by
 rintro rfl;revert h;decide
theorem val_leaf {inner:Option (Tr->Bool)} {iv:Option (Ln->Ot (Tr × Ln))} {iw:Tr->Ln} {t:Tr} (h:rstep inner t=true) (hk:t.kind≠5/\t.kind≠6) (f:Bool) (l:Ln) (hl:Stop f l) :
  vstep iv f (wstep iw t++l)=.ok (t,l):=by
 obtain⟨h1,h7,ha,ht,h0,_⟩:=rstep_inv h;have hkids:=h0 hk
 cases t with
 | mk k s a ks =>
 simp only at h1 h7 ha ht hk hkids;subst hkids;by_cases e:k=7
 ·subst e;have hn:isName a=true:=ha.resolve_left (fun x=>x.2 rfl);have hs:s=[]:=by simpa [txt]using ht
  subst hs;have ew:wstep iw ⟨7,[],a,[]⟩++l=42::(a++l):=by unfold wstep;simp
  rw[ew];unfold vstep;rw[gaps_cons _ (by decide)]
  have ep:prp f 3 p0 (42::(a++l))=.ok (p0,42::(a++l)):=by
   unfold prp;rw[if_neg (fun x=>absurd x.1 (show (42:UInt8)≠38 by decide)),if_neg (fun x=>absurd x.1 (show (42:UInt8)≠33 by decide))]
  rw[ep,bnd_ok];unfold body;rw[if_pos (by rfl),if_neg (show ¬ p0.some=true by decide)];show bnd (nam (a++l)) _=_;rw[nam_app a l hn hl.letter,bnd_ok]
 ·have h4:k<=4:=by omega
  have hh:=scl_hd h1 h4 ht
  have ew:wstep iw ⟨k,s,a,[]⟩++l=ancW a++(scl true k s++l):=by
   unfold wstep;rw[if_neg e,if_pos ⟨h1,h4⟩,List.append_assoc]
  rw[ew];unfold vstep;have eh:=hd_app l hh.1;rw[prp_ancW f a _ (ha.elim (fun x=>.inl x.1) .inr) (by rw[eh];exact hh.2.1) (by rw[eh];exact hh.2.2.1) (by rw[eh];exact hh.2.2.2.1),bnd_ok];exact body_scl h1 h4 ht iv f _ rfl l hl
theorem wstep_hd {inner:Option (Tr->Bool)} {iw:Tr->Ln} {t:Tr} (h:rstep inner t=true) :
  wstep iw t≠[]/\hd (wstep iw t)≠32/\hd (wstep iw t)≠44/\hd (wstep iw t)≠93/\hd (wstep iw t)≠125:=by
 obtain⟨h1,h7,ha,ht,h0,_⟩:=rstep_inv h
 have amp:∀ m:Ln,t.anc≠[]->hd (ancW t.anc++m)=38/\ancW t.anc++m≠[]:=by
  intro m hm;rw[ancW_app hm];exact⟨rfl,by simp⟩
 unfold wstep;by_cases e:t.kind=7
 ·rw[if_pos e];simp only[hd_cons];exact⟨by simp,by decide,by decide,by decide,by decide⟩
 ·rw[if_neg e];by_cases e4:1<=t.kind/\t.kind<=4
  ·rw[if_pos e4];have hh:=scl_hd e4.1 e4.2 ht;by_cases ea:t.anc=[]
   ·rw[ea];show scl true t.kind t.text≠[]/\hd (scl true t.kind t.text)≠32/\_;exact⟨hh.1,hh.2.1,hh.2.2.2.2⟩
   ·have:=amp (scl true t.kind t.text) ea;rw[this.1];exact⟨this.2,by decide,by decide,by decide,by decide⟩
  ·rw[if_neg e4];by_cases ea:t.anc=[]
   ·rw[ea];have en:∀ m:Ln,ancW []++m=m:=fun m=>rfl
    rw[en,hd_cons];split<;>exact⟨by simp,by decide,by decide,by decide,by decide⟩
   ·rw[(amp _ ea).1];exact⟨(amp _ ea).2,by decide,by decide,by decide,by decide⟩
theorem wrt_step (d:Nat) (t:Tr):∃ iw,wrt d t=wstep iw t:=by
 cases d with
 | zero=>exact⟨_,rfl⟩
 | succ d=>exact⟨_,rfl⟩
theorem rgt_step {d:Nat} {t:Tr} (h:rgt d t=true):∃ inner,rstep inner t=true:=by
 cases d with
 | zero=>exact⟨_,h⟩
 | succ d=>exact⟨_,h⟩
theorem val_32 (d:Nat) (f:Bool) (l:Ln):val d f (32::l)=val d f l:=by
 cases d<;> · unfold val vstep;rw[gaps_32]
theorem key_good {d:Nat} {t:Tr} (h:rgt d t=true) (hk:isKey t=true):GoodK (wrt d t) t:=by
 obtain⟨inner,hr⟩:=rgt_step h;obtain⟨iw,ew⟩:=wrt_step d t;obtain⟨h1,h7,ha,ht,h0,_⟩:=rstep_inv hr;unfold isKey at hk;simp only[Bool.and_eq_true,decide_eq_true_eq,beq_iff_eq]at hk;have hkids:=h0 ⟨by omega,by omega⟩;rw[ew]
 cases t with
 | mk k s a ks =>
 simp only at hk h1 ht hkids;obtain⟨⟨_,h4⟩,rfl⟩:=hk;subst hkids
 have e:wstep iw ⟨k,s,[],[]⟩=scl true k s:=by
  unfold wstep;simp only;rw[if_neg (by omega),if_pos ⟨h1,h4⟩];rfl
 rw[e];have hh:=scl_hd h1 h4 ht;exact⟨hh.1,hh.2.1,hh.2.2.2.2.2.2,fun l=>key_scl h1 h4 ht l⟩
theorem val_wrt:∀ (d:Nat) (t:Tr),rgt d t=true->∀ (f:Bool) (l:Ln),Stop f l->val d f (wrt d t++l)=.ok (t,l)
 | 0,t,h,f,l,hl=>by
  have hk:t.kind≠5/\t.kind≠6:=by
   obtain⟨_,_,_,_,_,h5⟩:=rstep_inv (inner:=none) h;constructor<;> · intro e;obtain⟨v,hv,_⟩:=h5 (by omega);cases hv
  exact val_leaf (inner:=none) h hk f l hl
 | d+1,t,h,f,l,hl=>by
  by_cases hk:t.kind≠5/\t.kind≠6
  ·exact val_leaf (inner:=some fun k=>rgt d k) h hk f l hl
  ·obtain⟨h1,h7,ha,ht,_,h5⟩:=rstep_inv (inner:=some fun k=>rgt d k) h;obtain⟨v,hv,hm,hkk⟩:=h5 (by omega);cases hv
   have good:∀ k∈t.kids,Good (fun m=>val d true m) (wrt d k) k:=by
    intro k hkm;have hr:=hkk k hkm;obtain⟨inner,hs⟩:=rgt_step hr;obtain⟨iw,ew⟩:=wrt_step d k;have hh:=wstep_hd (iw:=iw) hs;rw[<-ew]at hh;exact⟨hh.1,hh.2.1,hh.2.2.1,hh.2.2.2.1,hh.2.2.2.2,fun m hm=>val_wrt d k hr true m hm⟩
   cases t with
   | mk k s a ks =>
   simp only at h1 h7 ha ht hk hm hkk good
   have hs:s=[]:=by
    unfold txt at ht;rw[if_neg (by omega),if_neg (by omega),if_neg (by omega)]at ht;simpa using ht
   subst hs;have hk2:k=5\/k=6:=by omega
   rcases hk2 with rfl | rfl
   ·have ew:wrt (d+1) ⟨5,[],a,ks⟩++l=ancW a++(91::(jn false 0 (ks.map fun k=>wrt d k)++93::l)):=by
     show wstep _ _++l=_;unfold wstep;simp
    rw[ew];show vstep _ f _=_;unfold vstep;rw[prp_ancW f a _ (ha.elim (fun x=>.inl x.1) .inr) (by rw[hd_cons];decide) (by rw[hd_cons];decide) (by rw[hd_cons];decide),bnd_ok];unfold body;rw[hd_cons,if_neg (by decide),if_pos (.inl rfl)];show bnd (lst (fun m=>val d true m) false _ (jn false 0 (ks.map fun k=>wrt d k)++93::l)) _=_;rw[lst_seq (fun m=>val d true m) (fun k=>wrt d k) ks good _ l (by simp only[List.length_cons,List.length_append];omega),bnd_ok];rfl
   ·have ew:wrt (d+1) ⟨6,[],a,ks⟩++l=ancW a++(123::(jn true 0 (ks.map fun k=>wrt d k)++125::l)):=by
     show wstep _ _++l=_;unfold wstep;simp
    rw[ew];show vstep _ f _=_;unfold vstep;rw[prp_ancW f a _ (ha.elim (fun x=>.inl x.1) .inr) (by rw[hd_cons];decide) (by rw[hd_cons];decide) (by rw[hd_cons];decide),bnd_ok];unfold body;rw[hd_cons,if_neg (by decide),if_pos (.inr rfl)];show bnd (lst (fun m=>val d true m) true _ (jn true 0 (ks.map fun k=>wrt d k)++125::l)) _=_;rw[lst_map (fun m=>val d true m) (fun k=>wrt d k) (fun m=>val_32 d true m) ks (hm rfl).1 good (hm rfl).2 (fun y hy hyk=>key_good (hkk y hy) hyk) _ l (by simp only[List.length_cons,List.length_append];omega),bnd_ok];rfl
end Flw
namespace Flw
open Utf Rws Pln
theorem prn_neg {n:Int} (h:n<0):prn n=false:=by
 cases e:prn n
 ·rfl
 ·exfalso;unfold prn inR at e;simp only[Bool.or_eq_true,Bool.and_eq_true,decide_eq_true_eq,beq_iff_eq]at e;omega
theorem chk_dec:∀ (m:Nat) (l:Ln),l.length<=m->chk l=none->(dec l).2=none
 | 0,l,hm,h=>by
  have:l=[]:=List.length_eq_zero_iff.1 (by omega);subst this;rfl
 | m+1,l,hm,h=>by
  by_cases e:l=[]
  ·subst e;rfl
  ·rw[chk_next l e]at h;by_cases hp:prn (fst l).1=true
   ·rw[if_pos hp]at h
    have hn: ¬ (fst l).1<0:=by
     intro hlt;rw[prn_neg hlt]at hp;cases hp
    have hk:=fk_pos l e
    have hc:chk (l.drop (fk l))=none:=by
     cases e2:chk (l.drop (fk l))with
     | none=>rfl
     | some x=>rw[e2]at h;cases h
    rw[dec_next l e hn,chk_dec m (l.drop (fk l)) (by rw[List.length_drop];omega) hc];rfl
   ·rw[if_neg hp]at h;cases h
theorem isP_dec {s:Ln} {f:Bool} (h:isP s f=true):(dec s).2=none:=by
 unfold isP pri at h;simp only[Bool.and_eq_true]at h;exact chk_dec s.length s (Nat.le_refl _) (by simpa using h.1.1.1.1)
theorem hd_ne {l:Ln} (h:hd l≠0):l≠[]/\(l.drop 1).length+1=l.length:=by
 cases l with
 | nil=>exact absurd rfl h
 | cons b r=>exact⟨by simp,by simp⟩
theorem tw_all (p:UInt8->Bool) (l:Ln):(l.takeWhile p).all p=true:=by
 induction l with
 | nil=>rfl
 | cons b r ih =>
  by_cases h:p b=true
  ·rw[List.takeWhile_cons_of_pos h];simp[h,ih]
  ·rw[List.takeWhile_cons_of_neg h];rfl
theorem tw_len (p:UInt8->Bool) (l:Ln):(l.takeWhile p).length<=l.length:=by
 induction l with
 | nil=>exact Nat.le_refl _
 | cons b r ih =>
  by_cases h:p b=true
  ·rw[List.takeWhile_cons_of_pos h];simp;exact ih
  ·rw[List.takeWhile_cons_of_neg h];simp
theorem nam_inv {l:Ln} {x:Ln × Ln} (h:nam l=.ok x):isName x.1=true/\x.1.length+x.2.length=l.length:=by
 unfold nam at h;obtain⟨hn,e⟩:=ite_inv h;cases e;have h1:=tw_all letter l;have h2:=tw_len letter l;have h3:((l.takeWhile letter).take 32).length<=(l.takeWhile letter).length:=by rw[List.length_take];omega
 refine⟨?_,by show ((l.takeWhile letter).take 32).length+(l.drop _).length=_;rw[List.length_drop];omega⟩;unfold isName;simp only[Bool.and_eq_true,decide_eq_true_eq];refine⟨⟨?_,?_⟩,?_⟩
 ·rw[List.all_eq_true]at h1 |-;intro b hb;exact h1 b (List.mem_of_mem_take hb)
 ·rcases Nat.eq_zero_or_pos ((l.takeWhile letter).take 32).length with h0 | h0
  ·exact absurd (.inl h0) hn
  ·exact h0
 ·rw[List.length_take];omega
theorem gap_inv {f:Bool} {l r:Ln} (h:gap f l=.ok r):r.length<=l.length:=by
 unfold gap at h;obtain⟨_,e⟩:=ite_inv h;cases e;exact gaps_len l
theorem word_bd (l:Ln):0<=word l/\word l<=6:=by
 unfold word
 repeat' split
 all_goals exact⟨by decide,by decide⟩
theorem tag_inv {l:Ln} {x:Int × Ln} (h:tag l=.ok x):1<=x.1/\x.1<=6/\x.2.length<=l.length:=by
 unfold tag at h;obtain⟨hn,e⟩:=ite_inv h;cases e;have:=word_bd (l.takeWhile letter);refine⟨by omega,by omega,?_⟩;show (l.drop _).length<=_;rw[List.length_drop];omega
def PrOk (p:Pr):Prop:=(p.anc=[]\/isName p.anc=true)/\0<=p.tag/\p.tag<=6
theorem prp_inv (f:Bool):∀ (n:Nat) (p:Pr) (l:Ln) (x:Pr × Ln),PrOk p->prp f n p l=.ok x->PrOk x.1/\x.2.length<=l.length
 | 0,p,l,x,hp,h=>by cases h;exact⟨hp,Nat.le_refl _⟩
 | n+1,p,l,x,hp,h=>by
  unfold prp at h;by_cases c1:hd l=38/\p.anc=[]
  ·rw[if_pos c1]at h;obtain⟨y,hy,h⟩:=bnd_inv h;obtain⟨r,hr,h⟩:=bnd_inv h;have h1:=nam_inv hy;have h2:=gap_inv hr;have h3:=prp_inv f n _ r x (show PrOk ⟨y.1,p.tag,p.at_,true⟩from⟨.inr h1.1,hp.2⟩) h;have h4:=hd_ne (l:=l) (by rw[c1.1];decide);exact⟨h3.1,by omega⟩
  ·rw[if_neg c1]at h;by_cases c2:hd l=33/\hd (l.drop 1)=33/\p.tag=0
   ·rw[if_pos c2]at h;obtain⟨y,hy,h⟩:=bnd_inv h;obtain⟨r,hr,h⟩:=bnd_inv h;have h1:=tag_inv hy;have h2:=gap_inv hr;have h3:=prp_inv f n _ r x (show PrOk ⟨p.anc,y.1,l.length,true⟩from⟨hp.1,by show (0:Int)<=y.1;omega,h1.2.1⟩) h;have h4:(l.drop 2).length<=l.length:=by rw[List.length_drop];omega
    exact⟨h3.1,by omega⟩
   ·rw[if_neg c2]at h;cases h;exact⟨hp,Nat.le_refl _⟩
theorem quoted_inv {l:Ln} {x:Ln × Ln} (h:quoted l=.ok x):(dec x.1).2=none/\x.2.length+2<=l.length:=by
 unfold quoted at h;obtain⟨hn,e⟩:=ite_inv h;cases e;have:=Quo.rd_means l (by omega);refine⟨this.1,?_⟩;show (l.drop _).length+2<=_;rw[List.length_drop];omega
theorem plain_inv {f:Bool} {l:Ln} {x:Ln × Ln} (h:plain f l=.ok x):(dec x.1).2=none/\x.1.length+x.2.length=l.length:=by
 unfold plain at h;obtain⟨hn,e⟩:=ite_inv h;cases e;constructor
 ·show (dec (cutT l f)).2=none;by_cases e:cutT l f=[]
  ·rw[e];rfl
  ·cases hP:isP (cutT l f) f
   ·exact absurd ⟨e,hP⟩ hn
   ·exact isP_dec hP
 ·have h1:=cutT_len l f;have h2:=fin_le l f;show (cutT l f).length+(l.drop _).length=_;rw[List.length_drop];omega
theorem knd_bd (s:Ln):1<=knd s/\knd s<=4:=by
 unfold knd
 repeat' split
 all_goals exact⟨by decide,by decide⟩
theorem knd_txt (s:Ln) (h:(dec s).2=none):txt (knd s) (if knd s=1 then []else s)=true:=by
 have hb:=knd_bd s;have hk:knd s=1\/knd s=2\/knd s=3\/knd s=4:=by omega
 rcases hk with e | e | e | e
 ·rw[e,if_pos rfl];rfl
 ·rw[e,if_neg (by decide)];unfold knd at e;split at e
  ·cases e
  ·split at e
   ·rename_i hh;simpa [txt]using hh
   ·split at e<;>cases e
 ·rw[e,if_neg (by decide)];simp[txt,e]
 ·rw[e,if_neg (by decide)];simp[txt,h]
def LeafOk (t:Tr):Prop:=1<=t.kind/\t.kind<=7/\t.kind≠5/\t.kind≠6/\(t.anc=[]/\t.kind≠7\/isName t.anc=true)/\txt t.kind t.text=true/\t.kids=[]
theorem LeafOk.rgt {t:Tr} (h:LeafOk t) (d:Nat):rgt d t=true/\cntT d t=1:=by
 obtain⟨h1,h7,h5,h6,ha,ht,hk⟩:=h
 have hr:∀ inner,rstep inner t=true:=by
  intro inner;unfold rstep;simp only[Bool.and_eq_true,decide_eq_true_eq];refine⟨⟨⟨⟨h1,h7⟩,?_⟩,ht⟩,?_⟩
  ·simpa using ha
  ·rw[if_pos ⟨h5,h6⟩,hk];rfl
 cases d with
 | zero=>exact⟨hr _,rfl⟩
 | succ d=>exact⟨hr _,by unfold cntT;rw[hk];rfl⟩
theorem leaf_ok {s a:Ln} (h:(dec s).2=none) (ha:a=[]\/isName a=true):LeafOk (leaf (knd s) s a)/\LeafOk (leaf 4 s a):=by
 have hb:=knd_bd s;constructor
 ·exact⟨hb.1,by show knd s<=7;omega,by show knd s≠5;omega,by show knd s≠6;omega,ha.elim (fun x=>.inl ⟨x,by show knd s≠7;omega⟩) .inr,knd_txt s h,rfl⟩
 ·refine⟨(by decide:(1:Int)<=4),(by decide:(4:Int)<=7),(by decide:(4:Int)≠5),(by decide:(4:Int)≠6),ha.elim (fun x=>.inl ⟨x,(by decide:(4:Int)≠7)⟩) .inr,?_,rfl⟩;show txt 4 s=true;simp[txt,h]
theorem fits_inv {s:Ln} {q:Bool} {p:Pr} {t:Tr} (hp:PrOk p) (hd_:(dec s).2=none) (h:fits s q p=.ok t):LeafOk t:=by
 have hl:=leaf_ok hd_ hp.1;unfold fits at h;by_cases c4:p.tag=4
 ·rw[if_pos c4]at h;cases h;exact hl.2
 ·rw[if_neg c4]at h;by_cases c0:p.tag≠0
  ·rw[if_pos c0]at h;obtain⟨e,h⟩:=ite_inv h;cases h;have e2:knd s=p.tag:=by omega
   rw[<-e2];exact hl.1
  ·rw[if_neg c0]at h;cases h;cases q
   ·exact hl.1
   ·exact hl.2
theorem key_inv {l:Ln} {x:Tr × Ln} (h:key l=.ok x):LeafOk x.1/\isKey x.1=true/\x.2.length+1<=l.length:=by
 unfold key at h;by_cases c:hd l=39\/hd l=34
 ·rw[if_pos c]at h;obtain⟨y,hy,h⟩:=bnd_inv h;cases h;have hq:=quoted_inv hy;have:=(leaf_ok hq.1 (.inl rfl:([]:Ln)=[]\/_)).2;refine⟨this,rfl,?_⟩;show y.2.length+1<=_;omega
 ·rw[if_neg c]at h;obtain⟨y,hy,h⟩:=bnd_inv h;obtain⟨hn,h⟩:=ite_inv h;cases h;have hq:=plain_inv hy;have:=(leaf_ok hq.1 (.inl rfl:([]:Ln)=[]\/_)).1;have hb:=knd_bd y.1;refine⟨this,?_,?_⟩
  ·unfold isKey leaf;simp[hb.1,hb.2]
  ·have:0<y.1.length:=List.length_pos_iff.2 hn;show y.2.length+1<=_;omega
theorem keysOk_two (q:List Tr):∀ i,keysOk (i+2) q=keysOk i q:=by
 induction q with
 | nil=>intro i;rfl
 | cons y ys ih=>intro i;unfold keysOk;rw[show i+2+1=i+1+2 from by omega,ih (i+1),Nat.add_mod_right]
theorem part_inv {v:Ln->Ot (Tr × Ln)} {d:Nat} (hv:∀ l x,v l=.ok x->rgt d x.1=true/\x.2.length+cntT d x.1<=l.length+1) {map:Bool} {l:Ln} {x:List Tr × Ln} (h:part v map l=.ok x) :
  (∀ k∈x.1,rgt d k=true)/\x.2.length+(x.1.map fun k=>cntT d k).sum<=l.length+1/\(map=true->∃ k y,x.1=[k,y]/\isKey k=true):=by
 unfold part at h;cases map
 ·rw[if_neg (by decide)]at h;obtain⟨_,h⟩:=ite_inv h;obtain⟨y,hy,h⟩:=bnd_inv h;cases h;have:=hv _ _ hy;refine⟨fun k hk=> ?_,?_,fun h=>by cases h⟩
  ·simp at hk;rw[hk];exact this.1
  ·simpa using this.2
 ·rw[if_pos rfl]at h;obtain⟨k,hk,h⟩:=bnd_inv h;obtain⟨hc,h⟩:=ite_inv h;obtain⟨y,hy,h⟩:=bnd_inv h;cases h;have h1:=key_inv hk;have h2:=hv _ _ hy;have h3:=gaps_len k.2
  have hc2:hd (gaps k.2)=58:=by
   unfold colon at hc;simp only[Bool.not_eq_false,Bool.and_eq_true,beq_iff_eq]at hc;exact hc.1
  have h4:=hd_ne (l:=gaps k.2) (by rw[hc2];decide);have h5:=h1.1.rgt d;refine⟨fun z hz=> ?_,?_,fun _=>⟨k.1,y.1,rfl,h1.2.1⟩⟩
  ·simp at hz;rcases hz with rfl | rfl
   ·exact h5.1
   ·exact h2.1
  ·simp[h5.2];omega
theorem lst_inv {v:Ln->Ot (Tr × Ln)} {d:Nat} (hv:∀ l x,v l=.ok x->rgt d x.1=true/\x.2.length+cntT d x.1<=l.length+1) (map:Bool):∀ (n:Nat) (l:Ln) (x:List Tr × Ln),lst v map n l=.ok x ->
  (∀ k∈x.1,rgt d k=true)/\x.2.length+(x.1.map fun k=>cntT d k).sum<=l.length/\(map=true->x.1.length % 2=0/\keysOk 0 x.1=true)
 | 0,l,x,h=>by cases h
 | n+1,l,x,h=>by
  have hg:=gaps_len l;have e0:endOf map≠0:=by cases map<;>decide
  unfold lst at h;by_cases c:hd (gaps l)=endOf map
  ·rw[if_pos c]at h;cases h;have:=hd_ne (l:=gaps l) (by rw[c];exact e0);refine⟨fun k hk=>(by cases hk),?_,fun _=>⟨rfl,rfl⟩⟩;show ((gaps l).drop 1).length+0<=_;omega
  ·rw[if_neg c]at h;obtain⟨y,hy,h⟩:=bnd_inv h;have hp:=part_inv hv hy;have hg2:=gaps_len y.2;by_cases c2:hd (gaps y.2)=44
   ·rw[if_pos c2]at h;obtain⟨z,hz,h⟩:=bnd_inv h;cases h;have h4:=hd_ne (l:=gaps y.2) (by rw[c2];decide);have ih:=lst_inv hv map n _ _ hz;refine⟨fun k hk=> ?_,?_,fun hm=> ?_⟩
    ·simp at hk;rcases hk with hk | hk
     ·exact hp.1 k hk
     ·exact ih.1 k hk
    ·have e1:=hp.2.1;have e2:=ih.2.1;simp only[List.map_append,List.sum_append];omega
    ·obtain⟨k,q,e,hk⟩:=hp.2.2 hm;have h2:=ih.2.2 hm;show (y.1++z.1).length % 2=0/\keysOk 0 (y.1++z.1)=true;rw[e];constructor
     ·simp only[List.cons_append,List.nil_append,List.length_cons];omega
     ·show keysOk 0 (k::q::z.1)=true;rw[keysOk,keysOk,keysOk_two,h2.2,hk];rfl
   ·rw[if_neg c2]at h;by_cases c3:hd (gaps y.2)=endOf map
    ·rw[if_pos c3]at h;cases h;have h4:=hd_ne (l:=gaps y.2) (by rw[c3];exact e0);refine⟨hp.1,?_,fun hm=> ?_⟩
     ·have e1:=hp.2.1;show ((gaps y.2).drop 1).length+(y.1.map fun k=>cntT d k).sum<=_;omega
     ·obtain⟨k,q,e,hk⟩:=hp.2.2 hm;show y.1.length % 2=0/\keysOk 0 y.1=true;rw[e];refine⟨by simp,?_⟩;rw[keysOk,keysOk,hk];rfl
    ·rw[if_neg c3]at h;cases h
theorem body_inv {inner:Option (Ln->Ot (Tr × Ln))} {f:Bool} {p:Pr} {l:Ln} {x:Tr × Ln} (hp:PrOk p) (h:body inner f p l=.ok x) :
  (LeafOk x.1/\x.2.length<=l.length) \/
  (∃ v map y,inner=some v/\lst v map l.length (l.drop 1)=.ok y/\x=(⟨kindOf map,[],p.anc,y.1⟩,y.2)/\(l.drop 1).length+1=l.length):=by
 unfold body at h;by_cases c1:hd l=42
 ·rw[if_pos c1]at h;obtain⟨_,h⟩:=ite_inv h;obtain⟨y,hy,h⟩:=bnd_inv h;cases h;have hn:=nam_inv hy;have h4:=hd_ne (l:=l) (by rw[c1];decide);left;refine⟨⟨(by decide:(1:Int)<=7),(by decide:(7:Int)<=7),(by decide:(7:Int)≠5),(by decide:(7:Int)≠6),.inr hn.1,rfl,rfl⟩,?_⟩;show y.2.length<=_;omega
 ·rw[if_neg c1]at h;by_cases c2:hd l=91\/hd l=123
  ·rw[if_pos c2]at h
   cases inner with
   | none=>cases h
   | some v =>
    obtain⟨y,hy,h⟩:=bnd_inv h;obtain⟨_,h⟩:=ite_inv h;cases h;right;refine⟨v,_,y,rfl,hy,rfl,(hd_ne (l:=l) ?_).2⟩;rcases c2 with e | e<;> · rw[e];decide
  ·rw[if_neg c2]at h;left;by_cases c3:hd l=39\/hd l=34
   ·rw[if_pos c3]at h;obtain⟨y,hy,h⟩:=bnd_inv h;obtain⟨t,ht,h⟩:=bnd_inv h;cases h;have hq:=quoted_inv hy;exact⟨fits_inv hp hq.1 ht,by show y.2.length<=_;omega⟩
   ·rw[if_neg c3]at h;obtain⟨y,hy,h⟩:=bnd_inv h;obtain⟨t,ht,h⟩:=bnd_inv h;cases h;have hq:=plain_inv hy;exact⟨fits_inv hp hq.1 ht,by show y.2.length<=_;omega⟩
theorem p0_ok:PrOk p0:=⟨.inl rfl,by decide,by decide⟩
theorem val_inv:∀ (d:Nat) (f:Bool) (l:Ln) (x:Tr × Ln),val d f l=.ok x->rgt d x.1=true/\x.2.length+cntT d x.1<=l.length+1
 | 0,f,l,x,h=>by
  obtain⟨y,hy,h⟩:=bnd_inv (show bnd _ _=_ from h);have h1:=prp_inv f 3 p0 _ _ p0_ok hy;have h2:=gaps_len l;rcases body_inv h1.1 h with ⟨hl,hle⟩ | ⟨v,map,z,hv,_⟩
  ·have:=hl.rgt 0;exact⟨this.1,by rw[this.2];omega⟩
  ·cases hv
 | d+1,f,l,x,h=>by
  obtain⟨y,hy,h⟩:=bnd_inv (show bnd _ _=_ from h);have h1:=prp_inv f 3 p0 _ _ p0_ok hy;have h2:=gaps_len l;rcases body_inv h1.1 h with ⟨hl,hle⟩ | ⟨v,map,z,hv,hz,rfl,hlen⟩
  ·have:=hl.rgt (d+1);exact⟨this.1,by rw[this.2];omega⟩
  ·cases hv;have hz2:=lst_inv (fun l x hx=>val_inv d true l x hx) map _ _ _ hz;constructor
   ·show rstep _ _=true;have hk5:kindOf map=5\/kindOf map=6:=by cases map<;>simp[kindOf]
    have hk6:kindOf map=6->map=true:=by cases map<;>simp[kindOf]
    unfold rstep;simp only[Bool.and_eq_true,decide_eq_true_eq];refine⟨⟨⟨⟨by omega,by omega⟩,?_⟩,?_⟩,?_⟩
    ·have:kindOf map≠7:=by omega
     rcases h1.1.1 with e | e
     ·simp[e,this]
     ·simp[e]
    ·unfold txt;rw[if_neg (by omega),if_neg (by omega),if_neg (by omega)];rfl
    ·rw[if_neg (by omega)];simp only[Bool.and_eq_true,List.all_eq_true];refine⟨?_,hz2.1⟩;by_cases e:kindOf map=6
     ·have:=hz2.2.2 (hk6 e);simp[this.1,this.2]
     ·simp[e]
   ·show z.2.length+(1+(z.1.map fun k=>cntT d k).sum)<=_;have:=hz2.2.1;omega
def Bad {α:Type} (x:Ot α):Prop:=∀ e,x=.error e->e.1≠0
theorem Bad.ok {α:Type} (a:α):Bad (.ok a:Ot α):=fun e h=>by cases h
theorem Bad.err {α:Type} {e:Fa} (h:e.1≠0):Bad (.error e:Ot α):=fun e2 h2=>by cases h2;exact h
theorem Bad.bnd {α β:Type} {x:Ot α} {f:α->Ot β} (h:Bad x) (hf:∀ a,Bad (f a)):Bad (bnd x f):=by
 cases x with
 | ok a=>exact hf a
 | error e=>intro e2 h2;cases h2;exact h e rfl
theorem Bad.ite {α:Type} {p:Prop} [Decidable p] {x y:Ot α} (hx:Bad x) (hy:Bad y):Bad (if p then x else y):=by split<;>assumption
theorem stands_ne (l:Ln):(stands l).1≠0:=by 
 unfold stands;split
 ·exact(by decide:(4:Nat)≠0)
 ·exact(by decide:(3:Nat)≠0)
theorem nam_bad (l:Ln):Bad (nam l):=.ite (.err (stands_ne _)) (.ok _)
theorem tag_bad (l:Ln):Bad (tag l):=.ite (.err (stands_ne _)) (.ok _)
theorem gap_bad (f:Bool) (l:Ln):Bad (gap f l):=.ite (.err (show 3≠0 by decide)) (.ok _)
theorem prp_bad (f:Bool):∀ (n:Nat) (p:Pr) (l:Ln),Bad (prp f n p l)
 | 0,p,l=>.ok _
 | n+1,p,l=>by
  unfold prp;exact .ite (.bnd (nam_bad _) fun a=>.bnd (gap_bad f _) fun r=>prp_bad f n _ r) (.ite (.bnd (tag_bad _) fun a=>.bnd (gap_bad f _) fun r=>prp_bad f n _ r) (.ok _))
theorem quoted_bad (l:Ln):Bad (quoted l):=by
 unfold quoted;by_cases c:(Quo.rd l).2.2.1≠0
 ·rw[if_pos c];exact .err c
 ·rw[if_neg c];exact .ok _
theorem plain_bad (f:Bool) (l:Ln):Bad (plain f l):=.ite (.err (show 3≠0 by decide)) (.ok _)
theorem fits_bad (s:Ln) (q:Bool) (p:Pr):Bad (fits s q p):=.ite (.ok _) (.ite (.ite (.err (show 12≠0 by decide)) (.ok _)) (.ok _))
theorem key_bad (l:Ln):Bad (key l):=.ite (.bnd (quoted_bad l) fun _=>.ok _) (.bnd (plain_bad true l) fun _=>.ite (.err (stands_ne _)) (.ok _))
theorem part_bad {v:Ln->Ot (Tr × Ln)} (hv:∀ l,Bad (v l)) (map:Bool) (l:Ln):Bad (part v map l) :=
 .ite (.bnd (key_bad l) fun _=>.ite (.err (stands_ne _)) (.bnd (hv _) fun _=>.ok _)) (.ite (.err (stands_ne _)) (.bnd (hv _) fun _=>.ok _))
theorem lst_bad {v:Ln->Ot (Tr × Ln)} (hv:∀ l,Bad (v l)) (map:Bool):∀ (n:Nat) (l:Ln),Bad (lst v map n l)
 | 0,l=>.err (stands_ne _)
 | n+1,l=>by
  unfold lst;exact .ite (.ok _) (.bnd (part_bad hv map _) fun _=>.ite (.bnd (lst_bad hv map n _) fun _=>.ok _) (.ite (.ok _) (.err (stands_ne _))))
theorem vstep_bad {inner:Option (Ln->Ot (Tr × Ln))} (hv:∀ v,inner=some v->∀ l,Bad (v l)) (f:Bool) (l:Ln):Bad (vstep inner f l):=by
 unfold vstep body;refine .bnd (prp_bad f _ _ _) fun x=>.ite (.ite (.err (stands_ne _)) (.bnd (nam_bad _) fun _=>.ok _)) (.ite ?_ (.ite (.bnd (quoted_bad _) fun _=>.bnd (fits_bad _ _ _) fun _=>.ok _) (.bnd (plain_bad _ _) fun _=>.bnd (fits_bad _ _ _) fun _=>.ok _)))
 cases inner with
 | none=>exact .err (show 10≠0 by decide)
 | some v=>exact .bnd (lst_bad (hv v rfl) _ _ _) fun _=>.ite (.err (show 12≠0 by decide)) (.ok _)
theorem val_bad:∀ (d:Nat) (f:Bool) (l:Ln),Bad (val d f l)
 | 0,f,l=>vstep_bad (inner:=none) (fun v h=>by cases h) f l
 | d+1,f,l=>vstep_bad (inner:=some fun m=>val d true m) (fun v h m=>by cases h;exact val_bad d true m) f l
end Flw
namespace Flw
open Utf Rws Pln
theorem drop_le3 (l:Ln) (k:Nat):(l.drop k).length<=l.length:=by rw[List.length_drop];omega
def ends (f:Bool) (l:Ln):Bool:=l==[] || hd l==32 || (f && fl (hd l))
def lprp (f:Bool):Nat->Pr->Ln->Ot (Pr × Ln)
 | 0,p,l=>.ok (p,l)
 | n+1,p,l =>
  if p.anc=[]/\hd (gaps l)=38 then
   bnd (nam ((gaps l).drop 1)) fun x=>if ends f x.2=true then lprp f n ⟨x.1,p.tag,p.at_,true⟩ x.2 else .error (3,x.2.length)
  else if p.tag=0/\hd (gaps l)=33/\hd ((gaps l).drop 1)=33 then
   bnd (tag ((gaps l).drop 2)) fun x=>if ends f x.2=true then lprp f n ⟨p.anc,x.1,(gaps l).length,true⟩ x.2 else .error (3,x.2.length)
  else .ok (p,l)
def lplain (f:Bool) (l:Ln):Ot (Ln × Ln) :=
 if cutT (gaps l) f=[]then .ok ([],l)else if isP (cutT (gaps l) f) f=false then .error (3,(gaps l).length)
 else .ok (cutT (gaps l) f,(gaps l).drop (cutT (gaps l) f).length)
def lscl (f:Bool) (l:Ln):Ot ((Tr × Ln) × Ln) :=
 if hd (gaps l)=39\/hd (gaps l)=34 then bnd (quoted (gaps l)) fun x=>.ok ((⟨4,x.1,[],[]⟩,x.1),x.2)
 else bnd (lplain f l) fun x=>.ok ((leaf (knd x.1) x.1 [],x.1),x.2)
def isLst (t:Tr):Bool:=decide (t.kind=5) || decide (t.kind=6)
def told (t:Tr) (s:Ln) (g:Int):Tr:=if isLst t=true then t else if g=4 then ⟨4,s,[],[]⟩else leaf (knd s) s []
def anch (t:Tr) (a:Ln):Tr:=⟨t.kind,t.text,a,t.kids⟩
def lon (p:Pr) (t:Tr) (s:Ln):Ot Tr :=
 if p.tag≠0 then (if (told t s p.tag).kind≠p.tag then .error (12,p.at_)else .ok (anch (told t s p.tag) p.anc))else .ok (anch t p.anc)
def litem (v:Ln->Ot (Tr × Ln)) (l:Ln):Ot (List Tr × Ln) :=
 bnd (v l) fun x=>if x.2.length=l.length then .error (stands (gaps x.2))else .ok ([x.1],x.2)
def lentry (v:Ln->Ot (Tr × Ln)) (l:Ln):Ot (List Tr × Ln) :=
 bnd (lscl true l) fun k=>if k.2.length=l.length\/colon (gaps k.2)=false then .error (stands (gaps k.2))else bnd (v ((gaps k.2).drop 1)) fun x=>.ok ([k.1.1,x.1],x.2)
def lpart (v:Ln->Ot (Tr × Ln)) (map:Bool) (l:Ln):Ot (List Tr × Ln):=if map=true then lentry v l else litem v l
def lbr (v:Ln->Ot (Tr × Ln)) (map:Bool):Nat->Ln->Ot (List Tr × Ln)
 | 0,l=>.error (stands l)
 | n+1,l =>
  if hd (gaps l)=endOf map then .ok ([],(gaps l).drop 1)
  else bnd (lpart v map l) fun x =>
   if hd (gaps x.2)=44 then bnd (lbr v map n ((gaps x.2).drop 1)) fun y=>.ok (x.1++y.1,y.2)
   else if hd (gaps x.2)=endOf map then .ok (x.1,(gaps x.2).drop 1)else .error (stands (gaps x.2))
def lcont (inner:Option (Ln->Ot (Tr × Ln))) (f:Bool) (l:Ln):Ot ((Tr × Ln) × Ln) :=
 if hd (gaps l)=91\/hd (gaps l)=123 then
  match inner with
  | none=>.error (10,(gaps l).length)
  | some v=>bnd (lbr v (hd (gaps l)==123) (gaps l).length ((gaps l).drop 1)) fun x=>.ok ((⟨kindOf (hd (gaps l)==123),[],[],x.1⟩,[]),x.2)
 else lscl f l
def lstep (inner:Option (Ln->Ot (Tr × Ln))) (f:Bool) (l:Ln):Ot (Tr × Ln) :=
 if hd (gaps l)=42 then bnd (nam ((gaps l).drop 1)) fun x=>.ok (⟨7,[],x.1,[]⟩,x.2)
 else bnd (lprp f 3 p0 l) fun y=>bnd (lcont inner f y.2) fun z=>bnd (lon y.1 z.1.1 z.1.2) fun t=>.ok (t,z.2)
def lval:Nat->Bool->Ln->Ot (Tr × Ln)
 | 0,f,l=>lstep none f l
 | d+1,f,l=>lstep (some fun m=>lval d true m) f l
def Rl {α:Type} (x y:Ot (α × Ln)):Prop:=match x with | .error e=>y=.error e | .ok a=>∃ m,y=.ok (a.1,m)/\gaps m=gaps a.2
theorem Rl.refl {α:Type} (x:Ot (α × Ln)):Rl x x:=by
 cases x with
 | error e=>rfl
 | ok a=>exact⟨a.2,rfl,rfl⟩
theorem Rl.bnd {α β:Type} {x y:Ot (α × Ln)} {f g:α × Ln->Ot (β × Ln)} (h:Rl x y) (hf:∀ a m m',gaps m'=gaps m->Rl (f (a,m)) (g (a,m'))):Rl (bnd x f) (bnd y g):=by
 cases x with
 | error e=>have h:y=.error e:=h;subst h;exact rfl
 | ok a =>
  obtain⟨m,rfl,hm⟩:=h;exact hf a.1 a.2 m hm
theorem bnd_bnd {α β γ:Type} (x:Ot α) (f:α->Ot β) (g:β->Ot γ):bnd (bnd x f) g=bnd x fun a=>bnd (f a) g:=by cases x<;>rfl
theorem gap_ends (f:Bool) (l:Ln):gap f l=if ends f l=true then .ok (gaps l)else .error (3,l.length):=by
 unfold gap ends;by_cases h:l=[]
 ·subst h;rfl
 ·have h':(l==[])=false:=by simpa using h
  by_cases h2:hd l=32
  ·rw[if_neg (fun c=>c.2.1 h2),if_pos (by simp[h2])]
  ·have h2':(hd l==32)=false:=by simpa using h2
   cases f with
   | false =>
    rw[if_pos ⟨h,h2,fun c=>absurd c.1 (by decide)⟩,if_neg (by simp[h',h2'])]
   | true =>
    by_cases h3:fl (hd l)=true
    ·rw[if_neg (fun c=>c.2.2 ⟨rfl,h3⟩),if_pos (by simp[h3])]
    ·rw[if_pos ⟨h,h2,fun c=>h3 c.2⟩,if_neg (by simp[h',h2'];simpa using h3)]
theorem prp_l (f:Bool):∀ (n:Nat) (p:Pr) (l:Ln),prp f n p (gaps l)=bnd (lprp f n p l) fun x=>.ok (x.1,gaps x.2)
 | 0,p,l=>rfl
 | n+1,p,l=>by
  unfold prp lprp;by_cases c1:p.anc=[]/\hd (gaps l)=38
  ·rw[if_pos ⟨c1.2,c1.1⟩,if_pos c1,bnd_bnd];congr 1;funext x;rw[gap_ends];by_cases e:ends f x.2=true
   ·rw[if_pos e,if_pos e,bnd_ok];exact prp_l f n _ _
   ·rw[if_neg e,if_neg e];rfl
  ·rw[if_neg (fun h=>c1 ⟨h.2,h.1⟩),if_neg c1];by_cases c2:p.tag=0/\hd (gaps l)=33/\hd ((gaps l).drop 1)=33
   ·rw[if_pos ⟨c2.2.1,c2.2.2,c2.1⟩,if_pos c2,bnd_bnd];congr 1;funext x;rw[gap_ends];by_cases e:ends f x.2=true
    ·rw[if_pos e,if_pos e,bnd_ok];exact prp_l f n _ _
    ·rw[if_neg e,if_neg e];rfl
   ·rw[if_neg (fun h=>c2 ⟨h.2.2,h.1,h.2.1⟩),if_neg c2];rfl
def Adv {α:Type} (l:Ln) (x:Ot (α × Ln)):Prop:=∀ a,x=.ok a->a.2=l\/a.2.length<l.length
theorem Adv.le {α:Type} {l:Ln} {x:Ot (α × Ln)} (h:Adv l x) {a:α × Ln} (e:x=.ok a):a.2.length<=l.length:=by
 rcases h a e with h | h
 ·rw[h];exact Nat.le_refl _
 ·omega
theorem drop_lt {m:Ln} {k:Nat} (hm:m≠[]) (hk:0<k):(m.drop k).length<m.length:=by
 have:=List.length_pos_iff.2 hm;rw[List.length_drop];omega
theorem ne_of_hd {m:Ln} {c:UInt8} (h:hd m=c) (hc:c≠0):m≠[]:=by rintro rfl;exact hc h.symm
theorem lprp_adv (f:Bool):∀ (n:Nat) (p:Pr) (l:Ln),Adv l (lprp f n p l)
 | 0,p,l,a,h=>by cases h;exact .inl rfl
 | n+1,p,l,a,h=>by
  have hg:=gaps_len l;unfold lprp at h;by_cases c1:p.anc=[]/\hd (gaps l)=38
  ·rw[if_pos c1]at h;obtain⟨x,hx,h⟩:=bnd_inv h;have h1:=nam_inv hx;have h2:=drop_lt (ne_of_hd c1.2 (by decide)) (show 0<1 by decide);by_cases e:ends f x.2=true
   ·rw[if_pos e]at h;have h3:=(lprp_adv f n _ _).le h;exact .inr (by omega)
   ·rw[if_neg e]at h;cases h
  ·rw[if_neg c1]at h;by_cases c2:p.tag=0/\hd (gaps l)=33/\hd ((gaps l).drop 1)=33
   ·rw[if_pos c2]at h;obtain⟨x,hx,h⟩:=bnd_inv h;have h1:=tag_inv hx;have h2:=drop_lt (ne_of_hd c2.2.1 (by decide)) (show 0<2 by decide);by_cases e:ends f x.2=true
    ·rw[if_pos e]at h;have h3:=(lprp_adv f n _ _).le h;exact .inr (by omega)
    ·rw[if_neg e]at h;cases h
   ·rw[if_neg c2]at h;cases h;exact .inl rfl
theorem lprp_some (f:Bool):∀ (n:Nat) (p:Pr) (l:Ln) (a:Pr × Ln),lprp f n p l=.ok a->(p.some=true->a.1.some=true)/\(a.1.some=false->a.2=l)
 | 0,p,l,a,h=>by cases h;exact⟨id,fun _=>rfl⟩
 | n+1,p,l,a,h=>by
  unfold lprp at h;by_cases c1:p.anc=[]/\hd (gaps l)=38
  ·rw[if_pos c1]at h;obtain⟨x,hx,h⟩:=bnd_inv h;by_cases e:ends f x.2=true
   ·rw[if_pos e]at h;have h3:=(lprp_some f n _ _ a h).1 rfl;exact⟨fun _=>h3,fun h4=>absurd h3 (by rw[h4];decide)⟩
   ·rw[if_neg e]at h;cases h
  ·rw[if_neg c1]at h;by_cases c2:p.tag=0/\hd (gaps l)=33/\hd ((gaps l).drop 1)=33
   ·rw[if_pos c2]at h;obtain⟨x,hx,h⟩:=bnd_inv h;by_cases e:ends f x.2=true
    ·rw[if_pos e]at h;have h3:=(lprp_some f n _ _ a h).1 rfl;exact⟨fun _=>h3,fun h4=>absurd h3 (by rw[h4];decide)⟩
    ·rw[if_neg e]at h;cases h
   ·rw[if_neg c2]at h;cases h;exact⟨id,fun _=>rfl⟩
theorem lscl_adv (f:Bool) (l:Ln):Adv l (lscl f l):=by
 intro a h;have hg:=gaps_len l;unfold lscl at h;by_cases c:hd (gaps l)=39\/hd (gaps l)=34
 ·rw[if_pos c]at h;obtain⟨x,hx,h⟩:=bnd_inv h;have:=quoted_inv hx;cases h;exact .inr (by show x.2.length<_;omega)
 ·rw[if_neg c]at h;obtain⟨x,hx,h⟩:=bnd_inv h;cases h;unfold lplain at hx;by_cases c2:cutT (gaps l) f=[]
  ·rw[if_pos c2]at hx;cases hx;exact .inl rfl
  ·rw[if_neg c2]at hx;obtain⟨_,hx⟩:=ite_inv hx;cases hx;refine .inr ?_;show ((gaps l).drop _).length<_;have h1:=List.length_pos_iff.2 c2;have h2:=cutT_len (gaps l) f;have h3:=fin_le (gaps l) f;rw[List.length_drop];omega
theorem lpart_adv {v:Ln->Ot (Tr × Ln)} (hv:∀ l,Adv l (v l)) (map:Bool) (l:Ln):∀ a,lpart v map l=.ok a->a.2.length<l.length:=by
 intro a h;unfold lpart at h
 cases map with
 | true =>
  rw[if_pos rfl]at h;unfold lentry at h;obtain⟨k,hk,h⟩:=bnd_inv h;obtain⟨hn,h⟩:=ite_inv h;obtain⟨x,hx,h⟩:=bnd_inv h;cases h;have h1:=(hv _).le hx;have h2:=(lscl_adv true l).le hk;have h3:=gaps_len k.2;have h4:k.2.length<l.length:=Nat.lt_of_le_of_ne h2 (fun e=>hn (.inl e));have h5:=drop_le3 (gaps k.2) 1;show x.2.length<_;omega
 | false =>
  rw[if_neg (by decide)]at h;unfold litem at h;obtain⟨x,hx,h⟩:=bnd_inv h;obtain⟨hn,h⟩:=ite_inv h;cases h;exact Nat.lt_of_le_of_ne ((hv _).le hx) hn
theorem lbr_adv {v:Ln->Ot (Tr × Ln)} (hv:∀ l,Adv l (v l)) (map:Bool):∀ (n:Nat) (l:Ln) (a:List Tr × Ln),lbr v map n l=.ok a->a.2.length<l.length
 | 0,l,a,h=>by cases h
 | n+1,l,a,h=>by
  have hg:=gaps_len l;have hend:endOf map≠0:=by cases map<;>decide
  unfold lbr at h;by_cases c:hd (gaps l)=endOf map
  ·rw[if_pos c]at h;cases h;have:=drop_lt (ne_of_hd c hend) (show 0<1 by decide);show ((gaps l).drop 1).length<_;omega
  ·rw[if_neg c]at h;obtain⟨x,hx,h⟩:=bnd_inv h;have h1:=lpart_adv hv map l x hx;have h2:=gaps_len x.2;by_cases c2:hd (gaps x.2)=44
   ·rw[if_pos c2]at h;obtain⟨y,hy,h⟩:=bnd_inv h;cases h;have h3:=lbr_adv hv map n _ y hy;have h4:=drop_le3 (gaps x.2) 1;show y.2.length<_;omega
   ·rw[if_neg c2]at h;by_cases c3:hd (gaps x.2)=endOf map
    ·rw[if_pos c3]at h;cases h;have h4:=drop_le3 (gaps x.2) 1;show ((gaps x.2).drop 1).length<_;omega
    ·rw[if_neg c3]at h;cases h
theorem lcont_adv {inner:Option (Ln->Ot (Tr × Ln))} (hv:∀ v,inner=some v->∀ l,Adv l (v l)) (f:Bool) (l:Ln):Adv l (lcont inner f l):=by
 intro a h;have hg:=gaps_len l;unfold lcont at h;by_cases c:hd (gaps l)=91\/hd (gaps l)=123
 ·rw[if_pos c]at h
  cases inner with
  | none=>cases h
  | some v =>
   obtain⟨x,hx,h⟩:=bnd_inv h;cases h;have h1:=lbr_adv (hv v rfl) _ _ _ _ hx;have h4:=drop_le3 (gaps l) 1;exact .inr (by show x.2.length<_;omega)
 ·rw[if_neg c]at h;exact lscl_adv f l a h
theorem lstep_adv {inner:Option (Ln->Ot (Tr × Ln))} (hv:∀ v,inner=some v->∀ l,Adv l (v l)) (f:Bool) (l:Ln):Adv l (lstep inner f l):=by
 intro a h;have hg:=gaps_len l;unfold lstep at h;by_cases c:hd (gaps l)=42
 ·rw[if_pos c]at h;obtain⟨x,hx,h⟩:=bnd_inv h;cases h;have h1:=nam_inv hx;have h2:=drop_lt (ne_of_hd c (by decide)) (show 0<1 by decide);exact .inr (by show x.2.length<_;omega)
 ·rw[if_neg c]at h;obtain⟨y,hy,h⟩:=bnd_inv h;obtain⟨z,hz,h⟩:=bnd_inv h;obtain⟨t,ht,h⟩:=bnd_inv h;cases h;have h1:=lprp_adv f 3 p0 l y hy;have h2:=lcont_adv hv f y.2 z hz;rcases h1 with h1 | h1
  ·rw[h1]at h2;exact h2
  ·rcases h2 with h2 | h2
   ·exact .inr (by show z.2.length<_;rw[h2];exact h1)
   ·exact .inr (by show z.2.length<_;omega)
theorem lval_adv:∀ (d:Nat) (f:Bool) (l:Ln),Adv l (lval d f l)
 | 0,f,l=>lstep_adv (fun v h=>by cases h) f l
 | d+1,f,l=>lstep_adv (fun v h m=>by cases h;exact lval_adv d true m) f l
theorem trR_hd (b:UInt8) (r:Ln) (hb:is32 b=false):∃ r',trR is32 (b::r)=b::r':=by
 obtain⟨n,hn,e⟩:=trR_take is32 (b::r)
 cases n with
 | zero =>
  exfalso;have h1:trR is32 (b::r)=[]:=e;unfold trR at h1
  have h2:∀ m:Ln,m.dropWhile is32=[]->∀ x∈m,is32 x=true:=by
   intro m
   induction m with
   | nil=>intro _ x hx;cases hx
   | cons c m ih =>
    intro hm x hx;rw[List.dropWhile_cons]at hm
    cases hc:is32 c with
    | false=>rw[hc]at hm;simp at hm
    | true =>
     rw[hc,if_pos rfl]at hm;rcases List.mem_cons.1 hx with rfl | hx
     ·exact hc
     ·exact ih hm x hx
  have:=h2 _ (List.reverse_eq_nil_iff.1 h1) b (by simp);rw[hb]at this;cases this
 | succ n=>exact⟨r.take n,e⟩
theorem cut_nil {m:Ln} (h:m=[]\/hd m=44):cutT m true=[]:=by
 rcases h with rfl | h
 ·rfl
 ·cases m with
  | nil=>rfl
  | cons b r =>
   have hb:b=44:=h;subst hb;have:fin (44::r) true=0:=fin_uniq _ _ 0 (Nat.zero_le _) (fun j hj=>absurd hj (Nat.not_lt_zero j)) (.inr rfl);unfold cutT;rw[this];rfl
theorem cut_star {m:Ln} (f:Bool) (h:hd m=42):cutT m f≠[]/\isP (cutT m f) f=false:=by
 cases m with
 | nil=>cases h
 | cons b r =>
  have hb:b=42:=h;subst hb;have h0:en (42::r) f 0=false:=by unfold en;cases f<;>rfl
  have h1:fin (42::r) f≠0:=by
   intro e;by_cases hl:fin (42::r) f<(42::r).length
   ·have:=fin_at _ f hl;rw[e,h0]at this;cases this
   ·rw[e]at hl;exact hl (by simp)
  obtain⟨k,hk⟩:∃ k,fin (42::r) f=k+1:=⟨fin (42::r) f-1,by omega⟩
  have h2:∃ s,cutT (42::r) f=42::s:=by
   unfold cutT;rw[hk];show ∃ s,trR is32 (42::r.take k)=_;exact trR_hd 42 (r.take k) (by decide)
  obtain⟨s,hs⟩:=h2;refine⟨by rw[hs];exact List.cons_ne_nil _ _,?_⟩
  cases e:isP (cutT (42::r) f) f with
  | false=>rfl
  | true =>
   have:=(isP_hd e).1;rw[hs]at this;exact absurd (show mrk 42=false from this) (by decide)
theorem leaf_anc (k:Int) (s a:Ln):anch (leaf k s []) a=leaf k s a:=rfl
theorem fits_l (s:Ln) (q:Bool) (p:Pr):fits s q p=lon p (if q=true then ⟨4,s,[],[]⟩else leaf (knd s) s []) s:=by
 have hk:=knd_bd s;have n1:isLst (⟨4,s,[],[]⟩:Tr)=false:=rfl
 have n2:isLst (leaf (knd s) s [])=false:=by
  show (decide (knd s=5) || decide (knd s=6))=false;have h5: ¬ knd s=5:=by omega
  have h6: ¬ knd s=6:=by omega
  rw[decide_eq_false h5,decide_eq_false h6];rfl
 have nt:∀ g,told (if q=true then ⟨4,s,[],[]⟩else leaf (knd s) s []) s g=if g=4 then ⟨4,s,[],[]⟩else leaf (knd s) s []:=by
  intro g;unfold told;cases q
  ·simp only[Bool.false_eq_true,if_false,n2]
  ·simp only[if_true,n1,Bool.false_eq_true,if_false]
 unfold fits lon;by_cases c:p.tag=4
 ·rw[if_pos c,if_pos (by rw[c];decide),nt,if_pos c];rw[if_neg (by show ¬ ((4:Int)≠p.tag);rw[c];decide)];rfl
 ·rw[if_neg c];by_cases c0:p.tag≠0
  ·rw[if_pos c0,if_pos c0,nt,if_neg c];show _=if knd s≠p.tag then _ else _
   by_cases e:knd s≠p.tag
   ·rw[if_pos e,if_pos e]
   ·rw[if_neg e,if_neg e,leaf_anc];rw[show knd s=p.tag by omega]
  ·rw[if_neg c0,if_neg c0];cases q
   ·rfl
   ·rfl
theorem lst_l {v v':Ln->Ot (Tr × Ln)} (hg:∀ l,v (gaps l)=v l) (hr:∀ l,Rl (v l) (v' l)) (hx:∀ l,Adv l (v' l)) (h0:∀ l,gaps l=[]\/hd (gaps l)=44->∃ t,v' l=.ok (t,l)) (map:Bool) :
  ∀ (n:Nat) (l:Ln),Rl (lst v map n l) (lbr v' map n l)
 | 0,l=>Rl.refl _
 | n+1,l=>by
  unfold lst lbr;by_cases c:hd (gaps l)=endOf map
  ·rw[if_pos c,if_pos c];exact Rl.refl _
  ·rw[if_neg c,if_neg c]
   have tail:∀ (ks:List Tr) (m m':Ln),gaps m'=gaps m->Rl (if hd (gaps m)=44 then bnd (lst v map n ((gaps m).drop 1)) fun y=>.ok (ks++y.1,y.2)else if hd (gaps m)=endOf map then .ok (ks,(gaps m).drop 1)else .error (stands (gaps m)))
     (if hd (gaps m')=44 then bnd (lbr v' map n ((gaps m').drop 1)) fun y=>.ok (ks++y.1,y.2)else if hd (gaps m')=endOf map then .ok (ks,(gaps m').drop 1)else .error (stands (gaps m'))):=by
    intro ks m m' e;rw[e];by_cases c2:hd (gaps m)=44
    ·rw[if_pos c2,if_pos c2];exact(lst_l hg hr hx h0 map n _).bnd fun a r r' h=>⟨r',rfl,h⟩
    ·rw[if_neg c2,if_neg c2];exact Rl.refl _
   unfold part lpart
   cases map with
   | true =>
    rw[if_pos rfl];simp only[if_true];unfold key lentry lscl;by_cases q:hd (gaps l)=39\/hd (gaps l)=34
    ·rw[if_pos q,if_pos q,bnd_bnd,bnd_bnd,bnd_bnd,bnd_bnd]
     cases hq:quoted (gaps l)with
     | error e=>exact rfl
     | ok x =>
      simp only[bnd_ok];have hlt:=(quoted_inv hq).2;have hgl:=gaps_len l;have hne: ¬ x.2.length=l.length:=by omega
      by_cases cc:colon (gaps x.2)=false
      ·rw[if_pos cc,if_pos (.inr cc)];exact rfl
      ·rw[if_neg cc,if_neg (fun h=>h.elim hne cc),bnd_bnd,bnd_bnd];exact(hr _).bnd fun a r r' h=>tail _ r r' h
    ·rw[if_neg q,if_neg q,bnd_bnd,bnd_bnd,bnd_bnd,bnd_bnd];unfold plain lplain;by_cases c3:cutT (gaps l) true=[]
     ·rw[if_neg (fun h=>h.1 c3),if_pos c3];simp only[bnd_ok];rw[if_pos c3];simp only[true_or,if_true];exact rfl
     ·rw[if_neg c3];by_cases c4:isP (cutT (gaps l) true) true=false
      ·rw[if_pos ⟨c3,c4⟩,if_pos c4];exact rfl
      ·rw[if_neg (fun h=>c4 h.2),if_neg c4];simp only[bnd_ok];rw[if_neg c3];simp only[bnd_ok]
       have hne: ¬ ((gaps l).drop (cutT (gaps l) true).length).length=l.length:=by
        have h1:=List.length_pos_iff.2 c3;have h2:=cutT_len (gaps l) true;have h3:=fin_le (gaps l) true;have h4:=gaps_len l;rw[List.length_drop];omega
       by_cases cc:colon (gaps ((gaps l).drop (cutT (gaps l) true).length))=false
       ·rw[if_pos cc,if_pos (.inr cc)];exact rfl
       ·rw[if_neg cc,if_neg (fun h=>h.elim hne cc),bnd_bnd,bnd_bnd];exact(hr _).bnd fun a r r' h=>tail _ r r' h
   | false =>
    rw[if_neg (by decide)];simp only[Bool.false_eq_true,if_false];unfold litem;by_cases c2:gaps l=[]\/hd (gaps l)=44
    ·obtain⟨t,ht⟩:=h0 l c2;rw[if_pos c2,ht];simp only[bnd_ok,if_true];exact rfl
    ·rw[if_neg c2,bnd_bnd,bnd_bnd,hg];have h1:=hr l
     cases hv:v l with
     | error e=>rw[hv]at h1;have h1:v' l=.error e:=h1;rw[h1];exact rfl
     | ok x =>
      rw[hv]at h1;obtain⟨m,h2,h3⟩:=h1;rw[h2];simp only[bnd_ok];rcases hx l _ h2 with h4 | h4
      ·have h4:m=l:=h4;subst h4;rw[if_pos rfl];rw[<-h3,if_neg (fun h=>c2 (.inr h)),if_neg c];exact rfl
      ·rw[if_neg (Nat.ne_of_lt h4)];exact tail _ _ _ h3
theorem lstep_nix {inner:Option (Ln->Ot (Tr × Ln))} (l:Ln) (h:gaps l=[]\/hd (gaps l)=44):∃ t,lstep inner true l=.ok (t,l):=by
 have hn:∀ c:UInt8,c≠0->c≠44->hd (gaps l)≠c:=by
  intro c c0 c4 e;rcases h with h | h
  ·rw[h]at e;exact c0 e.symm
  ·rw[h]at e;exact c4 e.symm
 unfold lstep;rw[if_neg (hn 42 (by decide) (by decide))]
 have hp:lprp true 3 p0 l=.ok (p0,l):=by
  unfold lprp;rw[if_neg (fun x=>hn 38 (by decide) (by decide) x.2),if_neg (fun x=>hn 33 (by decide) (by decide) x.2.1)]
 rw[hp,bnd_ok];unfold lcont;rw[if_neg (fun x=>x.elim (hn 91 (by decide) (by decide)) (hn 123 (by decide) (by decide)))];unfold lscl;rw[if_neg (fun x=>x.elim (hn 39 (by decide) (by decide)) (hn 34 (by decide) (by decide)))];unfold lplain;rw[if_pos (cut_nil h),bnd_ok,bnd_ok];unfold lon;rw[if_neg (show ¬ p0.tag≠0 by decide),bnd_ok];exact⟨_,rfl⟩
theorem lval_nix (d:Nat) (l:Ln) (h:gaps l=[]\/hd (gaps l)=44):∃ t,lval d true l=.ok (t,l):=by cases d<;>exact lstep_nix l h
theorem step_l {iv lv:Option (Ln->Ot (Tr × Ln))} (hi:(iv=none/\lv=none)\/∃ v v',iv=some v/\lv=some v'/\∀ (map:Bool) (n:Nat) (l:Ln),Rl (lst v map n l) (lbr v' map n l)) (f:Bool) (l:Ln):Rl (vstep iv f l) (lstep lv f l):=by
 unfold vstep lstep;rw[prp_l,bnd_bnd];simp only[bnd_ok];by_cases c:hd (gaps l)=42
 ·rw[if_pos c]
  have hp:lprp f 3 p0 l=.ok (p0,l):=by
   unfold lprp;rw[if_neg (fun x=>absurd x.2 (by rw[c];decide)),if_neg (fun x=>absurd x.2.1 (by rw[c];decide))]
  rw[hp,bnd_ok];unfold body;rw[if_pos c,if_neg (show ¬ p0.some=true by decide)];exact Rl.refl _
 ·rw[if_neg c]
  cases hp:lprp f 3 p0 l with
  | error e=>exact rfl
  | ok y =>
   obtain⟨p,r⟩:=y;simp only[bnd_ok];unfold body lcont;by_cases c1:hd (gaps r)=42
   ·rw[if_pos c1]
    have hs:p.some=true:=by
     cases e:p.some with
     | true=>rfl
     | false=>have:=(lprp_some f 3 p0 l _ hp).2 e;have this:r=l:=this;subst this;exact absurd c1 c
    rw[if_pos hs,if_neg (fun x=>absurd c1 (by rcases x with x | x<;> · rw[x];decide))];unfold lscl;rw[if_neg (fun x=>absurd c1 (by rcases x with x | x<;> · rw[x];decide))];have hc:=cut_star f c1;unfold lplain;rw[if_neg hc.1,if_pos hc.2];show _=_;unfold stands;rw[if_neg (ne_of_hd c1 (by decide))];rfl
   ·rw[if_neg c1];by_cases c2:hd (gaps r)=91\/hd (gaps r)=123
    ·rw[if_pos c2,if_pos c2];rcases hi with ⟨rfl,rfl⟩ | ⟨v,v',rfl,rfl,hl⟩
     ·exact rfl
     ·simp only[bnd_bnd];refine(hl _ _ _).bnd fun ks m m' hm=> ?_
      simp only[bnd_ok]
      have hL:isLst ⟨kindOf (hd (gaps r)==123),[],[],ks⟩=true:=by
       cases hd (gaps r)==123<;>rfl
      unfold lon told;rw[if_pos hL];by_cases t0:p.tag≠0
      ·rw[if_pos t0];by_cases t1:p.tag≠kindOf (hd (gaps r)==123)
       ·rw[if_pos ⟨t0,t1⟩,if_pos (fun e=>t1 e.symm)];exact rfl
       ·rw[if_neg (fun x=>t1 x.2),if_neg (fun e=>t1 (fun e2=>e e2.symm)),bnd_ok];exact⟨m',rfl,hm⟩
      ·rw[if_neg (fun x=>t0 x.1),if_neg t0,bnd_ok];exact⟨m',rfl,hm⟩
    ·rw[if_neg c2,if_neg c2];unfold lscl;by_cases c3:hd (gaps r)=39\/hd (gaps r)=34
     ·rw[if_pos c3,if_pos c3,bnd_bnd];simp only[bnd_ok,fits_l,if_true];exact Rl.refl _
     ·rw[if_neg c3,if_neg c3,bnd_bnd];unfold plain lplain;by_cases c4:cutT (gaps r) f=[]
      ·rw[if_neg (fun h=>h.1 c4),if_pos c4];simp only[bnd_ok,fits_l,c4,Bool.false_eq_true,if_false]
       cases lon p (leaf (knd []) [] []) []with
       | error e=>exact rfl
       | ok t=>exact⟨r,rfl,by show gaps r=gaps ((gaps r).drop 0);rw[List.drop_zero,gaps_gaps]⟩
      ·rw[if_neg c4];by_cases c5:isP (cutT (gaps r) f) f=false
       ·rw[if_pos ⟨c4,c5⟩,if_pos c5];exact rfl
       ·rw[if_neg (fun h=>c5 h.2),if_neg c5];simp only[bnd_ok,fits_l,Bool.false_eq_true,if_false];exact Rl.refl _
theorem val_l:∀ (d:Nat) (f:Bool) (l:Ln),Rl (val d f l) (lval d f l)
 | 0,f,l=>step_l (.inl ⟨rfl,rfl⟩) f l
 | d+1,f,l=>step_l (.inr ⟨_,_,rfl,rfl,fun map n m=>lst_l (v:=fun m=>val d true m) (v':=fun m=>lval d true m) (fun l=>val_gaps d true l) (fun l=>val_l d true l) (fun l=>lval_adv d true l) (fun l h=>lval_nix d l h) map n m⟩) f l
end Flw
end Go.Proofs.YtidhpmcmbooaoaaGreatDoor
