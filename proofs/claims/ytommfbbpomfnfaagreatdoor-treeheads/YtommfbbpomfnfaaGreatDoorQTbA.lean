/- . -/
import Derived.Test.YtommfbbpomfnfaaGreatDoorQFbA
set_option linter.unusedSimpArgs false
set_option linter.unusedVariables false
namespace Go.Proofs.YtommfbbpomfnfaaGreatDoor
namespace Blk
open Utf
abbrev Ln:=List UInt8
abbrev Rw:=Int × List UInt8 × Int
/-! ### styles -/
def mark (f:Bool) (c:Int):Ln:=(if f then 62 else 124)::(if c=1 then [45]else if c=2 then [43]else [])
def headO (s:Ln):Option (Bool × Int) :=
 if s=[124]then some (false,0)else if s=[124,45]then some (false,1)else if s=[124,43]then some (false,2)
 else if s=[62]then some (true,0)else if s=[62,45]then some (true,1)else if s=[62,43]then some (true,2)else none
theorem head_mark (f:Bool) (c:Int) (h0:0<=c) (h2:c<=2):headO (mark f c)=some (f,c):=by
 rcases(show c=0\/c=1\/c=2 by omega)with rfl | rfl | rfl<;>cases f<;>decide
/-! ### folding -/
def flat (s:Ln):Bool:=match s with
 | []=>false
 | b::_=>b != 32
def sep (x:Ln) (r:List Ln):Ln:=match r.dropWhile (·.isEmpty)with
 | []=>[10]
 | z::_=>if (flat x && flat z)=true then (match r with | []::_=>[] | _=>[32])else [10]
def fld:List Ln->Ln
 | []=>[]
 | x::r=>match r with
  | []=>x
  | y::t=>x++sep x (y::t)++fld (y::t)
def joinW (c:UInt8):List Ln->Ln
 | []=>[]
 | x::r=>match r with
  | []=>x
  | y::t=>x++c::joinW c (y::t)
theorem fld_cons (x y:Ln) (t:List Ln):fld (x::y::t)=x++sep x (y::t)++fld (y::t):=rfl
theorem join_cons (c:UInt8) (x y:Ln) (t:List Ln):joinW c (x::y::t)=x++c::joinW c (y::t):=rfl
/-! ### lines of a text -/
/-! ### taking -/
def mx (c:Int):Nat:=c.toNat
def isIn (col:Int) (r:Rw):Bool:=r.2.1.isEmpty || decide (col<(mx r.1:Int))
def rws (l:List Rw) (col:Int):List Rw:=l.takeWhile (isIn col)
def trm (l:List Ln):List Ln:=(l.reverse.dropWhile (·.isEmpty)).reverse
def body (f:Bool) (k:List Ln):Ln:=if f then fld k else joinW 10 k
theorem trm_snoc_nil (l:List Ln):trm (l++[[]])=trm l:=by simp[trm]
theorem trm_last (l:List Ln) (x:Ln) (h:x≠[]):trm (l++[x])=l++[x]:=by
 unfold trm;rw[List.reverse_append,List.reverse_singleton,List.singleton_append,List.dropWhile_cons];have:x.isEmpty=false:=by cases x;exact absurd rfl h;rfl
 simp[this]
theorem trm_split (l:List Ln):∃ n,l=trm l++List.replicate n []:=by
 have key:∀ m:List Ln,∃ n,m.reverse=(m.dropWhile (·.isEmpty)).reverse++List.replicate n []:=by
  intro m
  induction m with
  | nil=>exact⟨0,rfl⟩
  | cons x t ih =>
   cases x with
   | nil =>
    obtain⟨n,hn⟩:=ih;refine⟨n+1,?_⟩;rw[List.reverse_cons,hn,List.append_assoc,List.replicate_succ'];rfl
   | cons a b=>exact⟨0,by simp⟩
 have:=key l.reverse;rw[List.reverse_reverse]at this;exact this
end Blk
namespace Blk
/-! ### folding -/
def btw (e:Nat) (f:Bool):Ln:=if f=true then (if e=1 then [32]else List.replicate (e-1) 10)else List.replicate e 10
def foC:Bool->Nat->Bool->List Ln->Ln
 | _,e,_,[]=>List.replicate e 10
 | g,e,f,x::r=>if x=[]then foC true (if g=true then e+1 else e) f r else btw (if g=true then e+1 else e) (f && flat x)++x++foC true 0 (flat x) r
theorem flat_nil:flat []=false:=rfl
theorem sep_nil (r:List Ln):sep [] r=[10]:=by
 unfold sep;split
 ·rfl
 ·rw[flat_nil];simp
theorem fld_nil (r:List Ln) (h:r≠[]):fld ([]::r)=10::fld r:=by
 cases r with
 | nil=>exact absurd rfl h
 | cons y t=>rw[fld_cons,sep_nil];rfl
theorem fld_nils (e:Nat) (r:List Ln) (h:r≠[]):fld (List.replicate e []++r)=List.replicate e 10++fld r:=by
 induction e with
 | zero=>rfl
 | succ e ih=>rw[List.replicate_succ,List.replicate_succ,List.cons_append,List.cons_append,fld_nil _ (by simp[h]),ih]
theorem fld_rep (e:Nat):fld (List.replicate (e+1) [])=List.replicate e 10:=by
 induction e with
 | zero=>rfl
 | succ e ih=>rw[List.replicate_succ,fld_nil _ (by simp),ih,List.replicate_succ]
theorem drop_emp (e:Nat) (x:Ln) (r:List Ln) (hx:x≠[]):(List.replicate e []++x::r).dropWhile (·.isEmpty)=x::r:=by
 induction e with
 | zero =>
  cases x with
  | nil=>exact absurd rfl hx
  | cons b t=>rfl
 | succ e ih=>rw[List.replicate_succ,List.cons_append,List.dropWhile_cons];simpa using ih
theorem drop_emps (e:Nat):(List.replicate e ([]:Ln)).dropWhile (·.isEmpty)=[]:=by
 induction e with
 | zero=>rfl
 | succ e ih=>rw[List.replicate_succ,List.dropWhile_cons];simp
theorem fld_mid (y x:Ln) (e:Nat) (r:List Ln) (hx:x≠[]):fld (y::(List.replicate e []++x::r))=y++btw (e+1) (flat y && flat x)++fld (x::r):=by
 cases e with
 | zero =>
  rw[List.replicate_zero,List.nil_append,fld_cons];congr 2;unfold sep;rw[show (x::r).dropWhile (·.isEmpty)=x::r from drop_emp 0 x r hx];simp only;cases hq:(flat y && flat x)
  ·simp[btw]
  ·cases x with
   | nil=>exact absurd rfl hx
   | cons b t=>simp[btw]
 | succ e =>
  have e1:List.replicate (e+1) []++x::r=([]:Ln)::(List.replicate e []++x::r):=rfl;have h1:fld ([]::(List.replicate e []++x::r))=List.replicate (e+1) 10++fld (x::r):=by rw[<-e1,fld_nils _ _ (by simp)]
  have h2:sep y ([]::(List.replicate e []++x::r))=if (flat y && flat x)=true then []else [10]:=by
   unfold sep;rw[<-e1,drop_emp (e+1) x r hx];rfl
  rw[e1,fld_cons,h1,h2];cases hq:(flat y && flat x)
  ·simp[btw,List.replicate_succ]
  ·simp[btw]
theorem fld_end (y:Ln) (e:Nat):fld (y::List.replicate e [])=y++List.replicate e 10:=by
 cases e with
 | zero=>simp[fld]
 | succ e =>
  have h1:=fld_rep e;rw[List.replicate_succ]at h1 |-;rw[fld_cons,h1]
  have h2:sep y ([]::List.replicate e [])=[10]:=by
   unfold sep;rw[<-List.replicate_succ,drop_emps]
  rw[h2,List.append_assoc];rfl
theorem rep_cons (e:Nat) (r:List Ln):List.replicate e ([]:Ln)++[]::r=List.replicate (e+1) []++r:=by
 rw[List.replicate_succ',List.append_assoc];rfl
theorem foC_mid:∀ (r:List Ln) (y:Ln) (e:Nat),y≠[]->fld (y::(List.replicate e []++r))=y++foC true e (flat y) r
 | [],y,e,_=>by rw[List.append_nil,fld_end];rfl
 | x::r,y,e,hy=>by
  by_cases hx:x=[]
  ·subst hx;rw[rep_cons,foC_mid r y (e+1) hy,foC,if_pos rfl,if_pos rfl]
  ·have h0:=foC_mid r x 0 hx;rw[List.replicate_zero,List.nil_append]at h0;rw[fld_mid y x e r hx,h0,foC,if_neg hx,if_pos rfl];simp only[List.append_assoc]
theorem foC_head:∀ (r:List Ln) (e:Nat),fld (List.replicate (e+1) []++r)=foC true e false r
 | [],e=>by rw[List.append_nil,fld_rep];rfl
 | x::r,e=>by
  by_cases hx:x=[]
  ·subst hx;rw[rep_cons,foC_head r (e+1),foC,if_pos rfl,if_pos rfl]
  ·have h0:=foC_mid r x 0 hx;rw[List.replicate_zero,List.nil_append]at h0;rw[fld_nils _ _ (by simp),h0,foC,if_neg hx,if_pos rfl,Bool.false_and];simp[btw]
theorem foC_all (l:List Ln):foC false 0 false l=fld l:=by
 cases l with
 | nil=>rfl
 | cons x r =>
  by_cases hx:x=[]
  ·subst hx;have:=foC_head r 0;rw[foC,if_pos rfl,if_neg (by simp),<-this];rfl
  ·have h0:=foC_mid r x 0 hx;rw[List.replicate_zero,List.nil_append]at h0;rw[h0,foC,if_neg hx,if_neg (by simp),Bool.false_and];rfl
/-! ### lines of a block -/
def addL (acc:List Ln):List Ln ⊕ Int->List Ln ⊕ Int
 | .inl m=>.inl (acc++m)
 | .inr a=>.inr a
theorem addL_nil (x:List Ln ⊕ Int):addL [] x=x:=by cases x<;>rfl
theorem addL_addL (a b:List Ln) (x:List Ln ⊕ Int):addL a (addL b x)=addL (a++b) x:=by cases x<;>simp[addL]
def lo:Option Nat->List Rw->List Ln ⊕ Int
 | _,[]=>.inl []
 | b,r::t=>if r.2.1=[]then addL [[]] (lo b t)
  else if mx r.1<b.getD (mx r.1)\/b.getD (mx r.1)+65536<mx r.1 then .inr r.2.2
  else addL [List.replicate (mx r.1-b.getD (mx r.1)) 32++r.2.1] (lo (some (b.getD (mx r.1))) t)
theorem rws_nil (col:Int):rws [] col=[]:=rfl
theorem rws_cons (r:Rw) (t:List Rw) (col:Int):rws (r::t) col=if r.2.1=[]\/col<(mx r.1:Int)then r::rws t col else []:=by
 unfold rws;rw[List.takeWhile_cons]
 have e:isIn col r=decide (r.2.1=[]\/col<(mx r.1:Int)):=by
  unfold isIn;cases h:r.2.1<;>simp
 rw[e];simp
theorem lo_len:∀ (b:Option Nat) (l:List Rw) (m:List Ln),lo b l=.inl m->m.length=l.length
 | b,[],m,h=>by cases h;rfl
 | b,r::t,m,h=>by
  rw[lo]at h;split at h
  ·cases hq:lo b t with
   | inl k=>rw[hq]at h;cases h;have:=lo_len b t k hq;simp[this]
   | inr a=>rw[hq]at h;cases h
  ·split at h
   ·cases h
   ·cases hq:lo (some (b.getD (mx r.1))) t with
    | inl k=>rw[hq]at h;cases h;have:=lo_len _ t k hq;simp[this]
    | inr a=>rw[hq]at h;cases h
/-! ### a block's text -/
def ed (c:Int) (n m:Nat):Nat:=(if 0<n/\c≠1 then 1 else 0)+(if c=2 then m else 0)
def txt (f:Bool) (c:Int) (ls:List Ln):Ln:=body f (trm ls)++List.replicate (ed c (trm ls).length (ls.length-(trm ls).length)) 10
theorem trm_le (l:List Ln):(trm l).length<=l.length:=by
 obtain⟨n,hn⟩:=trm_split l
 conv=>rhs;rw[hn]
 rw[List.length_append];omega
theorem trm_take (l:List Ln):l.take (trm l).length=trm l:=by
 obtain⟨n,hn⟩:=trm_split l;obtain⟨k,hk⟩:∃ k,k=trm l:=⟨_,rfl⟩;rw[<-hk]at hn |-;rw[hn,List.take_left'];rfl
end Blk
end Go.Proofs.YtommfbbpomfnfaaGreatDoor
