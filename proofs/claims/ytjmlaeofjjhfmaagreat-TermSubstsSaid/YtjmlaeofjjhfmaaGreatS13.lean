/- Lemmas. -/
import Derived.Test.YtjmlaeofjjhfmaaGreatS12
import Derived.Deep.RegionLaw
set_option linter.unusedVariables false
set_option linter.unusedSimpArgs false
set_option maxRecDepth 10000
set_option maxHeartbeats 16000000
namespace Go.Proofs.YtjmlaeofjjhfmaaGreat
section
open Go.RowKit Go.Shelf Go.Maps Go.WideMaps
def FrAt (w:World) (N:Nat) (m:Option Nat) (v:Value) (f:Frame):Prop:=
 (v= .map none/\∀k,f k=none)∨∃b,v= .map (some b)/\b < N/\m≠some b/\OwnF w b 1000000 f
theorem FrAt.kept {w w':World} {N:Nat} {m row:Option Nat} {v:Value} {f:Frame} (h:FrAt w N m v f) (hg:w.grownBy w' row) (hr:∀r,row=some r->N<=r∨m=some r):FrAt w' N m v f:=by
 rcases h with h | ⟨b,h1,h2,h3,h4⟩
 ·exact .inl h
 ·refine .inr ⟨b,h1,h2,h3,h4.kept hg (fun e=> ?_)⟩
  rcases hr b e.symm with h | h
  ·omega
  ·exact h3 h
theorem FrAt.later {w w':World} {N:Nat} {m:Option Nat} {v:Value} {f:Frame} (h:FrAt w N m v f) (hb:Below w.heap.size w w'):FrAt w' N m v f:=h.kept (zj hb) (by simp)
theorem FrAt.mono {w:World} {N N':Nat} {m:Option Nat} {v:Value} {f:Frame} (h:FrAt w N m v f) (hN:N<=N'):FrAt w N' m v f:=by
 rcases h with h | ⟨b,h1,h2,h3,h4⟩
 ·exact .inl h
 ·exact .inr ⟨b,h1,by omega,h3,h4⟩
theorem FrAt.look {w:World} {N:Nat} {m:Option Nat} {v:Value} {f:Frame} (h:FrAt w N m v f) {k:ByteArray} (hk:k.size<=maxLen):
  (Instr.lookup 121 v (.string k) true).run Tryz.prog w= .ok (.tuple #[.string ((f (zb k)).getD ⟨#[]⟩), .bool (f (zb k)).isSome]) w/\((f (zb k)).getD ⟨#[]⟩).size<=maxLen:=by
 rcases h with ⟨rfl,h⟩ | ⟨b,rfl,_,_,h⟩
 ·rw [h]
  refine ⟨?_,by simp [ByteArray.size]⟩;have:=Maps.look_nil (P:=Tryz.prog) (w:=w) (t:=121) true (string_keyed Tryz.underlying9) Tryz.underlyingMS (zjs w) (keyOf_string_mk Tryz.underlying9 hk);rw [this];rfl
 ·exact h.look hk
theorem Tryz.results221:Tryz.f221.results=#[.cell 4 36]:=by kernel_rfl
theorem Tryz.results171:Tryz.f171.results=#[.cell 4 36]:=by kernel_rfl
theorem Tryz.results140:Tryz.f140.results=#[.cell 4 36]:=by kernel_rfl
theorem Tryz.results225:Tryz.f225.results=#[.cell 4 36]:=by kernel_rfl
theorem Tryz.results101:Tryz.f101.results=#[.cell 0 123]:=by kernel_rfl
abbrev nmV (s:ByteArray):List Value:= [.int .i64 2, .int .i64 0, .string s, .slice none 0 0]
theorem zgx (B:Nat) (w:World) (s:ByteArray) (hs:s.size<=maxLen):zy B w (nmV s) (yq s):=⟨hs,_,rfl,none,0,rfl,by simp, .inl rfl⟩
def Bec (av:Value) (T:ByteArray->Exp) (good:World->Prop):Prop:=
 ∃ty cs g rcv,av= .iface ty (.agg cs)/\(∀W,(method 347 ty (.agg cs) "cabotage/term.becomes").run Tryz.prog W= .ok (g,rcv) W)/\(∀args W,(callFunc g args).run Tryz.prog W= .ok (.enter g args) W)/\
  ∀w x,x.size<=maxLen->good w->Calls Tryz.prog g #[rcv, .string x] w fun e w'=> ∃cs',e= .returned (.agg cs'.toArray)/\zy w'.heap.size (blank w.heap.size w') cs' (T x)/\Below w.heap.size w w'
def ya (w:World) (b:Nat):Prop:=w.heap[b]?=some (.cells #[.int .i64 0, .int .i64 0, .string ⟨#[]⟩, .slice none 0 0] 36)
theorem ya.cells {w:World} {b:Nat} (h:ya w b):w.cell? ⟨b,0,none⟩=some (.int .i64 0)/\w.cell? ⟨b,1,none⟩=some (.int .i64 0)/\w.cell? ⟨b,2,none⟩=some (.string ⟨#[]⟩)/\w.cell? ⟨b,3,none⟩=some (.slice none 0 0)/\∀o,w.frozen? ⟨b,o,none⟩=false:=by
 unfold ya at h;exact ⟨by simp [World.cell?,h],by simp [World.cell?,h],by simp [World.cell?,h],by simp [World.cell?,h],fun o=> by simp [World.frozen?,h]⟩
theorem set4 {n:Nat} {w w1:World} (hb:Below n w w1) (b:Nat) (h:n<=b) (v0 v1 v2 v3:Value):Below n w ((((w1.setCell ⟨b,0,none⟩ v0).setCell ⟨b,1,none⟩ v1).setCell ⟨b,2,none⟩ v2).setCell ⟨b,3,none⟩ v3):=
 (((hb.setCell (show n<=(⟨b,0,none⟩:Addr).block from h) _).setCell (show n<=(⟨b,1,none⟩:Addr).block from h) _).setCell (show n<=(⟨b,2,none⟩:Addr).block from h) _).setCell (show n<=(⟨b,3,none⟩:Addr).block from h) _
theorem zdR (m:Option Nat) (x:ByteArray) (w:World):Calls Tryz.prog 221 #[.agg #[.map m], .string x] w fun e w'=> e= .returned (.agg (nmV x).toArray)/\Below w.heap.size w w':=by
 have hn:=zdf x ((w.alloc (.cells #[.map m] 116)).alloc (.cells #[.int .i64 0, .int .i64 0, .string ⟨#[]⟩, .slice none 0 0] 36));obtain ⟨W0,hW0⟩:∃W0,W0=((w.alloc (.cells #[.map m] 116)).alloc (.cells #[.int .i64 0, .int .i64 0, .string ⟨#[]⟩, .slice none 0 0] 36)):=⟨_,rfl⟩;have hb0:Below w.heap.size w W0:=by rw [hW0];exact (ZQ w _).alloc (by simp) _
 have k4:W0.heap[w.heap.size + 1]?=some (.cells #[.int .i64 0, .int .i64 0, .string ⟨#[]⟩, .slice none 0 0] 36):=by
  rw [hW0];have:=ZN (w.alloc (.cells #[.map m] 116)) (.cells #[.int .i64 0, .int .i64 0, .string ⟨#[]⟩, .slice none 0 0] 36);rwa [World.size_alloc] at this
 rw [<-hW0] at hn;have HW:=ZH hW0;have hz:W0.heap.size=w.heap.size + 2:=by rw [hW0];simp
 clear hW0;go_enter Tryz.func221,Tryz.ntmps221;go_wp2_with (go_at_call 190;rw [<-HW.out];refine hn.mono ?_;clear hn;rintro e w1 ⟨rfl,hb1⟩;obtain ⟨c0,c1,c2,c3,cf⟩:=ya.cells ((hb1.block (w.heap.size + 1) (by omega)).trans k4));simp [bodyPost,results,Tryz.results221,go_sem,c0,c1,c2,c3];have hbw:=hb0.trans (hb1.mono (by omega));exact set4 hbw (w.heap.size + 1) (by omega) _ _ _ _
theorem zdI (m:Option Nat):Bec (.iface 116 (.agg #[.map m])) yq (fun _=> True):=
 ⟨116,#[.map m],221, .agg #[.map m],rfl,fun W=> by kernel_rfl,enters_of Tryz.func221 (by kernel_rfl) rfl,fun w x hx _=>
  (zdR m x w).mono fun _ w' ⟨h1,h2⟩=> ⟨nmV x,h1,zgx _ _ x hx,h2⟩⟩
theorem zlw (m:Option Nat):Bec (.iface 134 (.agg #[.map m])) yq (fun _=> True):=
 ⟨134,#[.map m],221, .agg #[.map m],rfl,fun W=> by kernel_rfl,enters_of Tryz.func221 (by kernel_rfl) rfl,fun w x hx _=>
  (zdR m x w).mono fun _ w' ⟨h1,h2⟩=> ⟨nmV x,h1,zgx _ _ x hx,h2⟩⟩
theorem zcg {A n:Nat} {w:World} {cs:List Value} {e:Exp} (h:zy w.heap.size (blank A w) cs e) (hn:n < A) (w':World) (hk:∀b,n < b->w'.heap[b]?=w.heap[b]?) (A':Nat) (hA:A'<=A):zy w.heap.size (blank A' w') cs e:=by
 refine zy.keep (qg hA fun b o v ha hb hv=> ?_) (ZL _) e cs h;exact (ZB (w:=w) (hk b (by omega))).trans hv
def frT (f:Frame) (T:ByteArray->Exp) (x:ByteArray):Exp:=match f (zb x) with
 | some n=> yq n
 | none=> T x
def zah (sv:Value) (T:ByteArray->Exp) (good:World->Prop):Prop:=
 ∀w x,x.size<=maxLen->good w->Calls Tryz.prog 171 #[sv, .string x] w fun e w'=> ∃cs',e= .returned (.agg cs'.toArray)/\zy w'.heap.size (blank w.heap.size w') cs' (T x)/\Below w.heap.size w w'
theorem zg0 {av:Value} {T:ByteArray->Exp} {good:World->Prop} (h:Bec av T good) (hgood:∀W W',good W->Below W.heap.size W W'->good W') (N:Nat) (m:Option Nat) (fv:Value) (f:Frame):
  zah (.agg #[av,fv]) (frT f T) (fun W=> good W/\FrAt W N m fv f):=by
 obtain ⟨ty,cs,g,rcv,rfl,hm,hc,hcall⟩:=h;intro w x hx ⟨hg,hf⟩;obtain ⟨W0,hW0⟩:∃W0,W0=((w.alloc (.cells #[.iface ty (.agg cs),fv] 123)).alloc (.cells #[.int .i64 0, .int .i64 0, .string ⟨#[]⟩, .slice none 0 0] 36)):=⟨_,rfl⟩;have hb0:Below w.heap.size w W0:=by rw [hW0];exact (ZQ w _).alloc (by simp) _
 have k4:W0.heap[w.heap.size + 1]?=some (.cells #[.int .i64 0, .int .i64 0, .string ⟨#[]⟩, .slice none 0 0] 36):=by
  rw [hW0];have:=ZN (w.alloc (.cells #[.iface ty (.agg cs),fv] 123)) (.cells #[.int .i64 0, .int .i64 0, .string ⟨#[]⟩, .slice none 0 0] 36);rwa [World.size_alloc] at this
 obtain ⟨hlk,hlz⟩:=(hf.later hb0).look hx;have hcl:=hcall W0 x hx (hgood _ _ hg hb0);have hnm:=fun s=> zdf s W0;have HW:=ZH hW0;have hz:W0.heap.size=w.heap.size + 2:=by rw [hW0];simp
 rw [hW0] at hlk;clear hW0 hcall hg hf;cases hfx:f (zb x) with
 | some n=>
  rw [hfx] at hlk hlz;simp only [Option.getD_some,Option.isSome_some] at hlk hlz;have hn:=hnm n;clear hnm hcl;go_enter Tryz.func171,Tryz.ntmps171;go_wp2_with (go_at_call 190;rw [<-HW.out];refine hn.mono ?_;clear hn;rintro e w1 ⟨rfl,hb1⟩;obtain ⟨c0,c1,c2,c3,cf⟩:=ya.cells ((hb1.block (w.heap.size + 1) (by omega)).trans k4));simp [bodyPost,results,Tryz.results171,go_sem,c0,c1,c2,c3];have hbw:=hb0.trans (hb1.mono (by omega));exact ⟨by rw [show frT f T x=yq n by unfold frT;rw [hfx]];exact zgx _ _ n hlz,set4 hbw (w.heap.size + 1) (by omega) _ _ _ _⟩
 | none=>
  rw [hfx] at hlk;simp only [Option.getD_none,Option.isSome_none] at hlk;clear hnm;go_enter Tryz.func171,Tryz.ntmps171;go_wp2_with (rw [<-HW.out];refine hcl.mono ?_;clear hcl;rintro e w1 ⟨cs',rfl,hat,hb1⟩;obtain ⟨e0,e1,e2,e3,e4,e5,rfl⟩:=qG hat;obtain ⟨c0,c1,c2,c3,cf⟩:=ya.cells ((hb1.block (w.heap.size + 1) (by omega)).trans k4));simp [bodyPost,results,Tryz.results171,go_sem,c0,c1,c2,c3];have hbw:=hb0.trans (hb1.mono (by omega));refine ⟨by rw [show frT f T x=T x by unfold frT;rw [hfx]];exact zcg (n:=w.heap.size + 1) hat (by omega) _ (fun b hb=> by rw [ZC _ _ _ _ (by simp;omega),ZC _ _ _ _ (by simp;omega),ZC _ _ _ _ (by simp;omega),ZC _ _ _ _ (by simp;omega)]) _ (by omega),set4 hbw (w.heap.size + 1) (by omega) _ _ _ _⟩
theorem zjC {av:Value} {T:ByteArray->Exp} {good:World->Prop} (h:Bec av T good) (hgood:∀W W',good W->Below W.heap.size W W'->good W') (N:Nat) (m:Option Nat) (fv:Value) (f:Frame):
  Bec (.iface 123 (.agg #[av,fv])) (frT f T) (fun W=> good W/\FrAt W N m fv f):=
 ⟨123,#[av,fv],171, .agg #[av,fv],rfl,fun W=> by kernel_rfl,enters_of Tryz.func171 (by kernel_rfl) rfl,zg0 h hgood N m fv f⟩
mutual
def j5 (T:ByteArray->Exp):Exp->Exp
 | .mk op n t kids=> if op=2 then T t else .mk op n t (zaR T kids)
def zaR (T:ByteArray->Exp):List Exp->List Exp
 | []=> []
 | e::es=> j5 T e::zaR T es
end
theorem zcV (T:ByteArray->Exp):∀es,zaR T es=es.map (j5 T)
 | []=> rfl
 | e::es=> by rw [zaR,zcV T es];rfl
mutual
theorem zl0 (v:Env):∀e,zeS v e=j5 v.becomes e
 | .mk op n t kids=> by rw [zeS,j5,zcE v kids]
theorem zcE (v:Env):∀es,jM v es=zaR v.becomes es
 | []=> rfl
 | e::es=> by rw [jM,zaR,zl0 v e,zcE v es]
end
theorem zbA {S A B:Type} (g:A->B):∀(l:List A) (s:S),zV (fun s a=> some (g a,s)) s l=some (l.map g,s)
 | [],_=> rfl
 | a::l,s=> by simp only [zV,zbA g l s];rfl
def zcC (N:Nat) (m:Option Nat) (good:World->Prop):Prop:=∀W W' row,good W->W.grownBy W' row->(∀r,row=some r->N<=r∨m=some r)->good W'
theorem zcC.below {N:Nat} {m:Option Nat} {good:World->Prop} (h:zcC N m good) {W W':World} (g:good W) (hb:Below W.heap.size W W'):good W':=h W W' none g (zj hb) (by simp)
theorem zin (B:Nat) (u:World) (N:Nat) (m:Option Nat) (av fv:Value) (T:ByteArray->Exp) (good:World->Prop) (h171:zah (.agg #[av,fv]) T good) (hst:zcC N m good):
  ∀(s:Nat) (e:Exp),(Part.exp e).size<=s->(Part.exp e).allSmall->∀(cs:List Value) (w:World),zy B u cs e->zh B u w->B<=w.heap.size->N<=w.heap.size->good w->
   Calls Tryz.prog 140 #[.agg #[av,fv], .agg cs.toArray] w fun e' w'=> ∃cs',e'= .returned (.agg cs'.toArray)/\zy w'.heap.size (blank w.heap.size w') cs' (j5 T e)/\Below w.heap.size w w':=by
 intro s
 induction s with
 | zero=> intro e he;exact absurd (by rw [Part.size,zv];simp) (Nat.not_lt.2 he)
 | succ s ih=>
  intro e hes hsm cs w hat hu hB hN hg;obtain ⟨op,n,t,kids⟩:=e;obtain ⟨htz,v,rfl,a,cap,rfl,hkl,hkids⟩:=id hat;have hsmall:=zaP (hsm (.exp (.mk op n t kids)) (by rw [zv];simp));have hkl3:kids.length<=300:=by simpa [Part.parts] using hsmall
  clear hsmall;obtain ⟨W0,hW0⟩:∃W0,W0=(((w.alloc (.cells #[av,fv] 123)).alloc (.cells #[.int .i64 op, .int .i64 n, .string t, .slice a kids.length cap] 36)).alloc (.cells #[.int .i64 0, .int .i64 0, .string ⟨#[]⟩, .slice none 0 0] 36)):=⟨_,rfl⟩;have hb0:Below w.heap.size w W0:=by rw [hW0];exact ((ZQ w _).alloc (by simp) _).alloc (by simp;omega) _
  have hz:W0.heap.size=w.heap.size + 3:=by rw [hW0];simp
  have k3:W0.heap[w.heap.size + 1]?=some (.cells #[.int .i64 op, .int .i64 n, .string t, .slice a kids.length cap] 36):=by
   rw [hW0,ZO _ _ _ (by simp)];have:=ZN (w.alloc (.cells #[av,fv] 123)) (.cells #[.int .i64 op, .int .i64 n, .string t, .slice a kids.length cap] 36);rwa [World.size_alloc] at this
  have k4:W0.heap[w.heap.size + 2]?=some (.cells #[.int .i64 0, .int .i64 0, .string ⟨#[]⟩, .slice none 0 0] 36):=by
   rw [hW0];have:=ZN ((w.alloc (.cells #[av,fv] 123)).alloc (.cells #[.int .i64 op, .int .i64 n, .string t, .slice a kids.length cap] 36)) (.cells #[.int .i64 0, .int .i64 0, .string ⟨#[]⟩, .slice none 0 0] 36);rwa [World.size_alloc,World.size_alloc] at this
  have hg0:good W0:=hst.below hg hb0;have HW:=ZH hW0;clear hW0;by_cases hop:op=2
  ·have hc:=h171 W0 t htz hg0
   clear hkids ih;subst hop;go_enter Tryz.func140,Tryz.ntmps140;go_wp2_with (go_at_call 171;rw [<-HW.out];refine hc.mono ?_;clear hc;rintro e w1 ⟨cs',rfl,hat',hb1⟩;obtain ⟨e0,e1,e2,e3,e4,e5,rfl⟩:=qG hat';obtain ⟨c0,c1,c2,c3,cf⟩:=ya.cells ((hb1.block (w.heap.size + 2) (by omega)).trans k4));simp [bodyPost,results,Tryz.results140,go_sem,c0,c1,c2,c3];have hbw:=hb0.trans (hb1.mono (by omega));refine ⟨by rw [show j5 T (.mk 2 n t kids)=T t by rw [j5,if_pos rfl]];exact zcg (n:=w.heap.size + 2) hat' (by omega) _ (fun b hb=> by rw [ZC _ _ _ _ (by simp;omega),ZC _ _ _ _ (by simp;omega),ZC _ _ _ _ (by simp;omega),ZC _ _ _ _ (by simp;omega)]) _ (by omega),set4 hbw (w.heap.size + 2) (by omega) _ _ _ _⟩
  ·have hku:zh B u W0:=hu.trans ((Below.keptC hb0).mono hB)
   have hc:=zgT (S:=Unit) B u none W0 (.agg #[av,fv]) (fun _ W=> good W) (fun s x=> some (j5 T x,s)) kids a cap (by omega) hkids hku (by omega)
    (fun _ W W' row h hg hr=> hst W W' row h hg (fun r e=> .inl (by have:=hr r e;omega))) (fun _ _ _ b hb=> by cases hb) (fun b hb=> by cases hb)
    (fun k hk s W cs hgW hgr hak=> by
     have hbW:Below W0.heap.size W0 W:=yy hgr;have hws:=hbW.size
     have hmem:Part.exp kids[k]∈(Part.exp (.mk op n t kids)).parts:=by
      show Part.exp kids[k]∈kids.map Part.exp;exact List.mem_map.2 ⟨_,ZM hk,rfl⟩
     refine (ih kids[k] (by have:=qi hmem;omega) (hsm.part hmem) cs W hak (hku.trans ((Below.keptC hbW).mono (by omega))) (by omega) (by omega) hgW).mono ?_;rintro e' w' ⟨cs',rfl,h1,h2⟩;exact ⟨cs',rfl,h1,hst.below hgW h2,zj h2⟩) () hg0
   rw [zbA] at hc;have hmf:∀(fn:Fn) (first cap:Array Value) (w:World),(Instr.makeFunc fn first cap).run Tryz.prog w= .ok (.func fn first cap) w:=fun _ _ _ _=> rfl;clear hkids ih;go_enter Tryz.func140,Tryz.ntmps140;go_wp2_with (go_at_call 139;rw [<-HW.out];refine hc.mono ?_;clear hc;rintro e w1 ⟨v,rfl,hll,⟨a',cap',rfl,hsl⟩,hgw1,hb1⟩;have hb1:=yy hb1;obtain ⟨c0,c1,c2,c3,cf⟩:=ya.cells ((hb1.block (w.heap.size + 2) (by omega)).trans k4);have q3:=(hb1.block (w.heap.size + 1) (by omega)).trans k3;have d0:w1.cell? ⟨w.heap.size + 1,0,none⟩=some (.int .i64 op):=(by simp [World.cell?,q3]);have d1:w1.cell? ⟨w.heap.size + 1,1,none⟩=some (.int .i64 n):=(by simp [World.cell?,q3]);have d2:w1.cell? ⟨w.heap.size + 1,2,none⟩=some (.string t):=(by simp [World.cell?,q3]);have d3:w1.cell? ⟨w.heap.size + 1,3,none⟩=some (.slice a kids.length cap):=(by simp [World.cell?,q3]);have df:∀o,w1.frozen? ⟨w.heap.size + 1,o,none⟩=false:=(fun o=> by simp [World.frozen?,q3]);clear q3);simp [bodyPost,results,Tryz.results140,go_sem,c0,c1,c2,c3];have hbw:=hb0.trans (hb1.mono (by omega));refine ⟨?_,set4 (hbw.setCell (by simp) _) (w.heap.size + 1 + 1) (by omega) _ _ _ _⟩;rw [show j5 T (.mk op n t kids)= .mk op n t (kids.map (j5 T)) by rw [j5,if_neg hop,zcV]];refine ⟨htz, .slice a' kids.length cap',rfl,a',cap',by rw [List.length_map],hsl.1,?_⟩;rcases hsl.2 with h | ⟨b',o',h1,h2,h3⟩
   ·exact .inl h
   ·refine .inr ⟨b',o',h1,h2,zW.keep (qg (by omega) fun b o v ha hb hv=> ?_) (ZL _) _ _ _ h2 h3⟩
    refine (ZB (w:=w1) ?_).trans hv;rw [ZC _ _ _ _ (by simp;omega),ZC _ _ _ _ (by simp;omega),ZC _ _ _ _ (by simp;omega),ZC _ _ _ _ (by simp;omega),ZC _ _ _ _ (by simp;omega)]
mutual
def xr:Exp->Bool
 | .mk op n _ kids=> (op !=2 || (n==0 && kids.isEmpty)) && xK kids
def xK:List Exp->Bool
 | []=> true
 | e::es=> xr e && xK es
end
mutual
theorem zdu:∀e,xr e=true->j5 yq e=e
 | .mk op n t kids,h=> by
  rw [xr] at h;simp only [Bool.and_eq_true,Bool.or_eq_true,bne_iff_ne,beq_iff_eq,ne_eq] at h;rw [j5];by_cases hop:op=2
  ·rw [if_pos hop]
   rcases h.1 with h1 | ⟨h1,h2⟩
   ·exact absurd hop h1
   ·have:kids= []:=by simpa using h2
    subst this;subst h1;subst hop;rfl
  ·rw [if_neg hop,zdd kids h.2]
theorem zdd:∀es,xK es=true->zaR yq es=es
 | [],_=> rfl
 | e::es,h=> by
  rw [xK,Bool.and_eq_true] at h;rw [zaR,zdu e h.1,zdd es h.2]
end
theorem zlS (T:ByteArray->Exp):frT (fun _=> none) T=T:=by funext x;rfl
theorem zbs {sv:Value} {T:ByteArray->Exp} {good good':World->Prop} (h:zah sv T good) (hg:∀W,good' W->good W):zah sv T good':=fun w x hx h1=> h w x hx (hg w h1)
theorem zjl:zah (.agg #[.iface 116 (.agg #[.map none]), .map none]) yq (fun _=> True):=by
 have:=zg0 (zdI none) (fun _ _ _ _=> trivial) 0 none (.map none) (fun _=> none);rw [zlS] at this;exact zbs this fun W _=> ⟨trivial, .inl ⟨rfl,fun _=> rfl⟩⟩
theorem ziF (N:Nat) (m:Option Nat):zcC N m (fun _=> True):=fun _ _ _ _ _ _=> trivial
theorem zbh (w:World):Calls Tryz.prog 101 #[] w fun e w'=> e= .returned (.agg #[.iface 116 (.agg #[.map none]), .map none])/\Below w.heap.size w w':=by
 go_enter Tryz.func101,Tryz.ntmps101;go_wp2;simp [bodyPost,results,Tryz.results101,go_sem];exact ZQ w _
theorem zey (x y:ByteArray):(x.toList==y.toList)=true↔x=y:=by
 rw [ByteArray.toList_eq,ByteArray.toList_eq,beq_iff_eq];exact ⟨fun h=> ByteArray.ext (Array.toList_inj.1 h),fun h=> by rw [h]⟩
theorem zh4 (B:Nat) (u:World) (m:Option Nat) (y:ByteArray) (o n:Int) (t:ByteArray) (a:Option Addr) (k c:Nat) (e:Exp) (hat:zy B u [.int .i64 o, .int .i64 n, .string t, .slice a k c] e)
  (hes:(Part.exp e).size<=1000) (hsm:(Part.exp e).allSmall) (hpl:xr e=true):
  Bec (.iface 118 (.agg #[.map m, .string y, .int .i64 o, .int .i64 n, .string t, .slice a k c])) (Base.becomes (.putting y e)) (fun W=> zh B u W/\B<=W.heap.size):=by
 refine ⟨118,_,225, .agg #[.map m, .string y, .int .i64 o, .int .i64 n, .string t, .slice a k c],rfl,fun W=> by kernel_rfl,enters_of Tryz.func225 (by kernel_rfl) rfl,fun w x hx ⟨hu,hB⟩=> ?_⟩;obtain ⟨W0,hW0⟩:∃W0,W0=((w.alloc (.cells #[.map m, .string y, .int .i64 o, .int .i64 n, .string t, .slice a k c] 118)).alloc (.cells #[.int .i64 0, .int .i64 0, .string ⟨#[]⟩, .slice none 0 0] 36)):=⟨_,rfl⟩;have hb0:Below w.heap.size w W0:=by rw [hW0];exact (ZQ w _).alloc (by simp) _
 have hz:W0.heap.size=w.heap.size + 2:=by rw [hW0];simp
 have k3:W0.heap[w.heap.size]?=some (.cells #[.map m, .string y, .int .i64 o, .int .i64 n, .string t, .slice a k c] 118):=by
  rw [hW0,ZO _ _ _ (by simp)];exact ZN w _
 have k4:W0.heap[w.heap.size + 1]?=some (.cells #[.int .i64 0, .int .i64 0, .string ⟨#[]⟩, .slice none 0 0] 36):=by
  rw [hW0];have:=ZN (w.alloc (.cells #[.map m, .string y, .int .i64 o, .int .i64 n, .string t, .slice a k c] 118)) (.cells #[.int .i64 0, .int .i64 0, .string ⟨#[]⟩, .slice none 0 0] 36);rwa [World.size_alloc] at this
 have HW:=ZH hW0;cases he:(x.toList==y.toList) with
 | false=>
  have hxy:¬x=y:=fun h=> by rw [(zey x y).2 h] at he;cases he
  have hn:=zdf x W0;clear hW0;go_enter Tryz.func225,Tryz.ntmps225;go_wp2_with (go_at_call 190;rw [<-HW.out];refine hn.mono ?_;clear hn;rintro e w1 ⟨rfl,hb1⟩;obtain ⟨c0,c1,c2,c3,cf⟩:=ya.cells ((hb1.block (w.heap.size + 1) (by omega)).trans k4));simp [bodyPost,results,Tryz.results225,go_sem,c0,c1,c2,c3];have hbw:=hb0.trans (hb1.mono (by omega));exact ⟨by rw [show Base.becomes (.putting y e) x=yq x by unfold Base.becomes;simp [hxy]];exact zgx _ _ x hx,set4 hbw (w.heap.size + 1) (by omega) _ _ _ _⟩
 | true=>
  have hxy:x=y:=(zey x y).1 he;obtain ⟨G,hG⟩:∃G:World->Prop,G=fun W=> Below W0.heap.size W0 W:=⟨_,rfl⟩;have g0:G W0.drew:=by rw [hG];exact (ZF _ _).drew
  have hread:∀W,G W->W.cell? ⟨w.heap.size,2,none⟩=some (.int .i64 o)/\W.cell? ⟨w.heap.size,3,none⟩=some (.int .i64 n)/\W.cell? ⟨w.heap.size,4,none⟩=some (.string t)/\W.cell? ⟨w.heap.size,5,none⟩=some (.slice a k c):=fun W h=> by
   rw [hG] at h;have q:=(h.block w.heap.size (by omega)).trans k3;exact ⟨by simp [World.cell?,q],by simp [World.cell?,q],by simp [World.cell?,q],by simp [World.cell?,q]⟩
  have hcop:∀W,G W->Calls Tryz.prog 101 #[] W fun e w'=> e= .returned (.agg #[.iface 116 (.agg #[.map none]), .map none])/\G w':=fun W h=> by
   rw [hG] at h ⊢;exact (zbh W).mono fun _ w' ⟨h1,h2⟩=> ⟨h1,h.trans (h2.mono h.size)⟩
  have hexp:∀W,G W->Calls Tryz.prog 140 #[.agg #[.iface 116 (.agg #[.map none]), .map none], .agg #[.int .i64 o, .int .i64 n, .string t, .slice a k c]] W fun e' w'=> ∃e0 e1 e2 e3 e4 e5,e'= .returned (.agg #[.int .i64 e0, .int .i64 e1, .string e2, .slice e3 e4 e5])/\
    zy w'.heap.size (blank W0.heap.size w') [.int .i64 e0, .int .i64 e1, .string e2, .slice e3 e4 e5] e/\Below w.heap.size w w'/\ya w' (w.heap.size + 1):=fun W h=> by
   rw [hG] at h;have hbW:=hb0.trans (h.mono (by omega));refine (zin B u 0 none _ _ yq (fun _=> True) zjl (ziF _ _) 1000 e hes hsm _ W hat (hu.trans ((Below.keptC hbW).mono hB)) (by have:=hbW.size;omega) (by omega) trivial).mono ?_;rintro e' w' ⟨cs',rfl,h1,h2⟩;obtain ⟨e0,e1,e2,e3,e4,e5,rfl⟩:=qG h1;rw [zdu e hpl] at h1;refine ⟨_,_,_,_,_,_,rfl,zy.keep (qg h.size fun b o v _ _ hv=> hv) (ZL _) _ _ h1,hbW.trans (h2.mono hbW.size),(h2.block _ (by have:=h.size;omega)).trans ((h.block _ (by omega)).trans k4)⟩
  have HG:=ZH hG;clear hG hat;obtain ⟨r2,r3,r4,r5⟩:=hread _ g0;clear hW0;go_enter Tryz.func225,Tryz.ntmps225;go_wp2;rw [<-HW.out]
  go_region_law (go_simp;go_wp2_with (first
   | (go_at_call 140;refine (hexp _ (by assumption)).mono ?_;rintro e' w2 ⟨e0,e1,e2,e3,e4,e5,rfl,hat',hbw,hze⟩;obtain ⟨c0,c1,c2,c3,cf⟩:=ya.cells hze)
   | (go_at_call 101;refine (hcop _ (by assumption)).mono ?_;rintro e' w1 ⟨rfl,g1⟩;obtain ⟨s2,s3,s4,s5⟩:=hread _ g1)))
  all_goals
   go_wp2;simp [bodyPost,results,Tryz.results225,go_sem,c0,c1,c2,c3];exact ⟨by rw [show Base.becomes (.putting y e) x=e by unfold Base.becomes;simp [hxy]];exact zcg (n:=w.heap.size + 1) hat' (by omega) _ (fun b hb=> by rw [ZC _ _ _ _ (by simp;omega),ZC _ _ _ _ (by simp;omega),ZC _ _ _ _ (by simp;omega),ZC _ _ _ _ (by simp;omega)]) _ (by omega),set4 hbw (w.heap.size + 1) (by omega) _ _ _ _⟩
def zce:Exp->Option ByteArray
 | .mk op _ t _=> if op=2 then some t else none
def jK (T:ByteArray->Exp) (x:ByteArray):Option ByteArray:=if x.size=0 then some x else zce (T x)
theorem zcF (v:Env) (x:ByteArray):yS v x=jK v.becomes x:=by
 unfold yS jK zce
 split
 ·rfl
 ·cases v.becomes x;rfl
theorem zcD (av fv:Value) (T:ByteArray->Exp) (good:World->Prop) (h171:zah (.agg #[av,fv]) T good) (hgd:∀W W',good W->Below W.heap.size W W'->good W') (x:ByteArray) (hx:x.size<=maxLen) (w:World) (hg:good w):
  Calls Tryz.prog 138 #[.agg #[av,fv], .string x] w fun e' w'=> OutE (jK T x) e' (Below w.heap.size w w') fun t=> e'= .returned (.string t)/\t.size<=maxLen/\Below w.heap.size w w':=by
 obtain ⟨W0,hW0⟩:∃W0,W0=w.alloc (.cells #[av,fv] 123):=⟨_,rfl⟩;have hb0:Below w.heap.size w W0:=by rw [hW0];exact ZQ w _
 have hz:W0.heap.size=w.heap.size + 1:=by rw [hW0];simp
 have hc:=h171 W0 x hx (hgd _ _ hg hb0);have HW:=ZH hW0;cases he:(x.toList==([]:List UInt8)) with
 | true=>
  have hx0:x=⟨#[]⟩:=by
   rw [ByteArray.toList_eq,beq_iff_eq] at he;exact ByteArray.ext (by simpa using he)
  subst hx0;have ht:jK T ⟨#[]⟩=some ⟨#[]⟩:=by unfold jK;exact if_pos (show (⟨#[]⟩:ByteArray).size=0 from rfl)
  rw [ht];clear hc;go_enter Tryz.func138,Tryz.ntmps138;go_wp2;go_ret;exact ⟨rfl,by simp [ByteArray.size],by rw [<-HW.out];exact hb0⟩
 | false=>
  have hx0:¬x.size=0:=by
   intro h;rw [ByteArray.toList_eq] at he
   have:x.data.toList= []:=by
    have h2:x.data.size=0:=h;exact List.eq_nil_of_length_eq_zero (by rw [Array.length_toList];exact h2)
   rw [this] at he;simp at he
  have ht:jK T x=zce (T x):=by unfold jK;rw [if_neg hx0]
  rw [ht];obtain ⟨op,n,t,kids,hTX⟩:∃op n t kids,T x= .mk op n t kids:=by cases T x;exact ⟨_,_,_,_,rfl⟩
  rw [hTX] at hc ⊢;clear hW0;by_cases hop:op=2
  ·subst hop
   rw [show zce (.mk 2 n t kids)=some t from rfl];go_enter Tryz.func138,Tryz.ntmps138;go_wp2_with (go_at_call 171;rw [<-HW.out];refine hc.mono ?_;clear hc;rintro e w1 ⟨cs',rfl,hat,hb1⟩;obtain ⟨htz,v,rfl,a',c',rfl,_⟩:=hat);go_ret;exact ⟨rfl,htz,(hb0.trans (hb1.mono (by omega))).alloc (by have:=hb1.size;omega) _⟩
  ·rw [show zce (.mk op n t kids)=none by show (if op=2 then some t else none)=none;exact if_neg hop]
   have href:=j7 7;go_enter Tryz.func138,Tryz.ntmps138
   go_wp2_with (first
    | (go_at_call 171;rw [<-HW.out];refine hc.mono ?_;clear hc;rintro e w1 ⟨cs',rfl,hat,hb1⟩;obtain ⟨htz,v,rfl,a',c',rfl,_⟩:=hat)
    | (go_at_call 103;refine (href _).mono ?_;rintro e w2 ⟨rfl,rfl⟩))
   simp only [bodyPost];exact ⟨by trivial,rfl,(hb0.trans (hb1.mono (by omega))).alloc (by have:=hb1.size;omega) _⟩
end
section
open Go.RowKit Go.Shelf Go.Maps
theorem zco {w:World} {A:Nat} {v:Value} {ss:List ByteArray} (h:w.ownsRow A 9 1 v ss.length (zn ss)) (hz:∀s∈ss,s.size<=maxLen):zx w.heap.size (blank A w) v ss:=by
 have hc:=qM h hz;obtain ⟨a,cap,rfl,h1,h2,h3,h4⟩:=hc;refine ⟨a,cap,rfl,h1,h2,h3,?_⟩;rcases h4 with h4 | ⟨b,off,rfl,hb,hcell⟩
 ·exact .inl h4
 ·refine .inr ⟨b,off,rfl,hb,fun j hj=> ?_⟩
  have hA:=(h.lt b rfl).1;rw [yT,if_neg (by omega)];exact hcell j hj
def zbR {A B:Type} (F:A->Option B) (l:List A):Option (List B):=(zV (fun (_:Unit) a=> (F a).map fun b=> (b,())) () l).map (·.1)
theorem zjn (v:Env) (l:List ByteArray):zbr v l=zbR (yS v) l:=zf5 v l
theorem zkb (v i:Env) (l:List Msg):zau v i l=zbR (msgM v i) l:=zd0 v i l
theorem zlU (sv:Value) (N:Nat) (m:Option Nat) (good:World->Prop) (hstay:zcC N m good) (F:ByteArray->Option ByteArray)
  (hcall:∀x W,x.size<=maxLen->good W->Calls Tryz.prog 138 #[sv, .string x] W fun e w'=> OutE (F x) e (Below W.heap.size W w') fun t=> e= .returned (.string t)/\t.size<=maxLen/\Below W.heap.size W w')
  (B:Nat) (u:World) (l:List ByteArray) (v:Value) (hl:l.length<=1000) (hs:zx B u v l) (w:World) (hu:zh B u w) (hB:B<=w.heap.size) (hN:N<=w.heap.size) (hg:good w):
  Calls Tryz.prog 174 #[v, .func (.func 138) #[sv] #[]] w fun e w'=> OutE (zbR F l) e (Below w.heap.size w w') fun l'=> ∃v',e= .returned v'/\l'.length=l.length/\zx w'.heap.size (blank w.heap.size w') v' l'/\Below w.heap.size w w':=by
 obtain ⟨i0,hi,hz0,hz1,hz2⟩:=info_parts zaK;have eK:∀args w,(callFunc 138 args).run Tryz.prog w= .ok (.enter 138 args) w:=enters_of Tryz.func138 (by kernel_rfl) rfl;obtain ⟨a,cap,rfl,_,hz,_,hp⟩:=hs;unfold zbR;obtain ⟨G,hG⟩:∃G:Unit->ByteArray->Option (ByteArray×Unit),G=fun _ a=> (F a).map fun b=> (b,()):=⟨_,rfl⟩;rw [<-hG];have HG:=ZH hG;have hu':=ZH hu;clear hu hG;go_enter Tryz.func174,Tryz.ntmps174;go_wp2_with fail
 go_loopw [5,10] (fun v i wr=> ∃(k:Nat) (xs:List ByteArray),k<=l.length/\i= .int .i64 k/\zV G () (l.take k)=some (xs,())/\xs.length=k/\wr.ownsRow w.heap.size 9 1 v k (zn xs)/\(∀s∈xs,s.size<=maxLen)/\good wr/\Below w.heap.size w wr) (fun _ i _=> l.length - (intOf i).toNat)
 case atStart=> exact ⟨0, [],by omega,rfl,by simp [zV],rfl,ZR _ _ _ _,by simp,hg,ZF _ _⟩
 case round=>
  obtain ⟨k,xs,hk,rfl,hst,hxl,hown,hxz,hgr,hb⟩:=hrel;have HXL:=ZH hxl;clear hxl;by_cases hlt:k < l.length
  ·rcases hp with h0 | ⟨b,off,rfl,hbB,hc⟩
   ·subst h0;simp at hlt
   have hku:zh B u wr:=hu'.out.trans ((Below.keptC hb).mono hB);have hwr:=hb.size;have ck:=hku _ _ _ hbB (hc k hlt);have hxk:=hz _ (ZM hlt);have hmore:=ZH (jD hlt hst);have hnone:=ZH (jO hlt hst);have hcl:=hcall l[k] wr hxk hgr;obtain ⟨x,hx⟩:∃x,x=l[k]:=⟨_,rfl⟩;rw [<-hx] at ck hcl hmore hnone hxk;have HX:=ZH hx;have hGF:G () x=(F x).map fun b=> (b,()):=by rw [HG.out]
   obtain ⟨R,hR⟩:∃R,R=F x:=⟨_,rfl⟩;rw [<-hR] at hcl hGF;have HGF:=ZH hGF;clear hGF hR hx hc hst hcall hz;cases R with
   | none=>
    go_wp2_with (go_at_call 138;refine hcl.mono ?_;clear hcl;rintro e w3 ⟨rfl,hbp⟩);simp only [bodyPost];rw [hnone.out (by rw [HGF.out];rfl)];exact ⟨by trivial,rfl,hb.trans (hbp.mono hwr)⟩
   | some t=>
    have hj:∀(w3:World),t.size<=maxLen->Below wr.heap.size wr w3->∃gg cp w',(Builtin.append_ #[22,22] 22 #[u5, .slice (some ⟨w3.heap.size,0,none⟩) 1 1]).run Tryz.prog (w3.alloc (.cells #[.string t] 9))= .ok (.slice (some ⟨gg,0,none⟩) (k + 1) cp) w'/\
       w'.ownsRow w.heap.size 9 1 (.slice (some ⟨gg,0,none⟩) (k + 1) cp) (k + 1) (zn (xs ++ [t]))/\(∀s∈xs ++ [t],s.size<=maxLen)/\good w'/\Below w.heap.size w w':=by
     intro w3 htz hb3;have hA:Below wr.heap.size wr (w3.alloc (.cells #[.string t] 9)):=hb3.alloc hb3.size _;have hoA:=zt hown (zj hA) (fun g _ e=> by cases e)
     obtain ⟨v',w',hr,h1,h2,_,_⟩:=run_append_own_at (P:=Tryz.prog) (w3.alloc (.cells #[.string t] 9)) w.heap.size 22 22 9 i0 (.string ⟨#[]⟩) 1 16 Tryz.underlying22 hi hz0 hz1 hz2 rfl (by decide) _ k _ hoA
      ⟨w3.heap.size,0,none⟩ 1 1 [.string t] rfl (by
       intro j u hj;have e:(⟨w3.heap.size,0,none⟩:Addr).add j=⟨w3.heap.size,j,none⟩:=by unfold Addr.add;by_cases h:j=0 <;> simp [h]
       rw [e,ZA _ _ _ _ rfl];simpa using hj) (by simp [Value.oneCell']) (by unfold maxLen;omega) (by omega) (by have:=hA.size;omega)
     have hlo:=hown.lt;have hbw:Below w.heap.size w w':=(hb.trans (hA.mono hwr)).grown h2 (by have:=hA.size;omega) (fun r e=> (hlo r e).1);have hgw:good w':=hstay _ _ _ (hstay.below hgr hA) h2 (fun r e=> .inl (by have:=(hlo r e).1;omega));obtain ⟨_,⟨_,h0⟩ | ⟨gg,cp,cur,hvf,_⟩⟩:=id h1
     ·omega
     subst hvf;refine ⟨gg,cp,w',hr,?_,?_,hgw,hbw⟩
     ·have:zn (xs ++ [t])=zn xs ++ [.string t]:=by simp [zn]
      rw [this];exact h1
     ·intro s hs
      rcases List.mem_append.1 hs with h | h
      ·exact hxz s h
      ·rw [List.mem_singleton.1 h];exact htz
    clear hown hxz
    go_wp2_with (first
     | (go_at_call 138;refine hcl.mono ?_;clear hcl;rintro e w3 ⟨rfl,htz,hb3⟩;obtain ⟨gg,cp,w',hr,h1,h2,h3,h4⟩:=hj w3 htz hb3;have H1:=ZH h1;have H2:=ZH h2;have H3:=ZH h3;have H4:=ZH h4;clear hj h1 h2 h3 h4 hb3)
     | (show wpList _ _ _ (⟨some 19,_,_,_,_,_⟩::_) _ _;refine qe rfl (.tmp 14) (.tmp 18) 22 22 rfl rfl rfl hr ?_))
    go_roundw
    case rel=> exact ⟨k + 1,xs ++ [t],by omega,by go_num,by rw [hmore.out,HGF.out];rfl,by simp [HXL.out],H1.out,H2.out,H3.out,H4.out⟩
    case measure=> simp [intOf];omega
  ·obtain rfl:k=l.length:=by omega
   rw [List.take_length] at hst;have HXL':=HXL.out;have hsl:=zco (by rw [HXL'];exact hown) hxz;have HSL:=ZH hsl;obtain ⟨aa,cc,hvv,_⟩:=zJ (by omega) hown;subst hvv;clear hsl hown;go_wp2;go_ret;rw [hst];exact ⟨_,rfl,HXL',HSL.out,hb⟩
end
section
open Go.RowKit Go.Shelf Go.Maps Go.WideMaps
def zjt (e:Exp):Prop:=(Part.exp e).size<=60/\(Part.exp e).allSmall/\(Part.exp e).allBind/\xr e=true
def zeg (B:Nat) (u:World) (m:Option Nat):Base->Value->Prop
 | .outside,v=> v= .iface 116 (.agg #[.map m])
 | .anew,v=> v= .iface 134 (.agg #[.map m])
 | .putting y e,v=> y.size<=maxLen/\zjt e/\∃o n t a k c,v= .iface 118 (.agg #[.map m, .string y, .int .i64 o, .int .i64 n, .string t, .slice a k c])/\zy B u [.int .i64 o, .int .i64 n, .string t, .slice a k c] e
def qQ (B:Nat) (u:World) (N:Nat) (m:Option Nat) (b:Base):List Frame->World->Value->Prop
 | [],_,v=> zeg B u m b v
 | f::fs,w,v=> ∃av fv,v= .iface 123 (.agg #[av,fv])/\FrAt w N m fv f/\qQ B u N m b fs w av
theorem qQ.kept {B N:Nat} {u:World} {m:Option Nat} {b:Base}:∀{fs:List Frame} {w w':World} {v:Value} {row:Option Nat},qQ B u N m b fs w v->w.grownBy w' row->(∀r,row=some r->N<=r∨m=some r)->qQ B u N m b fs w' v
 | [],_,_,_,_,h,_,_=> h
 | _::_,_,_,_,_,⟨av,fv,h1,h2,h3⟩,hg,hr=> ⟨av,fv,h1,h2.kept hg hr,h3.kept hg hr⟩
theorem qQ.mono {B N N':Nat} {u:World} {m:Option Nat} {b:Base} (hN:N<=N'):∀{fs:List Frame} {w:World} {v:Value},qQ B u N m b fs w v->qQ B u N' m b fs w v
 | [],_,_,h=> h
 | _::_,_,_,⟨av,fv,h1,h2,h3⟩=> ⟨av,fv,h1,h2.mono hN,h3.mono hN⟩
structure Good (B:Nat) (u:World) (N:Nat) (m:Option Nat) (b:Base) (fs:List Frame) (v:Value) (W:World):Prop where
 kept:zh B u W
 room:B<=W.heap.size
 at_:qQ B u N m b fs W v
theorem Good.stays {B N:Nat} {u:World} {m:Option Nat} {b:Base} {fs:List Frame} {v:Value} (hB:B<=N) (hm:∀r,m=some r->B<=r):zcC N m (Good B u N m b fs v):=by
 intro W W' row ⟨h1,h2,h3⟩ hg hr;refine ⟨fun c o x hc hx=> ?_,Nat.le_trans h2 hg.size,h3.kept hg hr⟩;refine (ZB (w:=W) (hg.block c (by omega) (fun e=> ?_))).trans (h1 c o x hc hx);rcases hr c e.symm with h | h
 ·omega
 ·have:=hm c h;omega
theorem zdP (b:Base) (f:Frame) (fs:List Frame) (x:ByteArray):yC b x (f::fs)=frT f (fun x=> yC b x fs) x:=by
 rw [yC];unfold frT;cases f (zb x) <;> rfl
theorem zlg {B:Nat} {u:World} {m:Option Nat}:∀{b:Base} {v:Value},zeg B u m b v->Bec v b.becomes (fun W=> zh B u W/\B<=W.heap.size)
 | .outside,_,rfl=> by
  obtain ⟨ty,cs,g,rcv,h1,h2,h3,h4⟩:=zdI m;exact ⟨ty,cs,g,rcv,h1,h2,h3,fun w x hx _=> h4 w x hx trivial⟩
 | .anew,_,rfl=> by
  obtain ⟨ty,cs,g,rcv,h1,h2,h3,h4⟩:=zlw m;exact ⟨ty,cs,g,rcv,h1,h2,h3,fun w x hx _=> h4 w x hx trivial⟩
 | .putting y e,_,⟨_,hp,o,n,t,a,k,c,rfl,hat⟩=> zh4 B u m y o n t a k c e hat (by have:=hp.1;omega) hp.2.1 hp.2.2.2
theorem zeh {B N:Nat} {u:World} {m:Option Nat} {b:Base} (hB:B<=N) (hm:∀r,m=some r->B<=r):∀(fs:List Frame) (w:World) (v:Value),qQ B u N m b fs w v->Bec v (fun x=> yC b x fs) (Good B u N m b fs v)
 | [],w,v,h=> by
  obtain ⟨ty,cs,g,rcv,h1,h2,h3,h4⟩:=zlg h;exact ⟨ty,cs,g,rcv,h1,h2,h3,fun w x hx hg=> h4 w x hx ⟨hg.kept,hg.room⟩⟩
 | f::fs,w,v,h=> by
  obtain ⟨av,fv,rfl,h2,h3⟩:=h;have ih:=zeh hB hm fs w av h3;have h4:=zjC ih (fun W W' g hb=> (Good.stays hB hm).below g hb) N m fv f;obtain ⟨ty,cs,g,rcv,h1,h2,h3,h4⟩:=h4;refine ⟨ty,cs,g,rcv,h1,h2,h3,fun w x hx hg=> ?_⟩;simp only [zdP];obtain ⟨av',fv',he,hf',ha'⟩:=hg.at_;simp only [Value.iface.injEq,Value.agg.injEq,true_and] at he;have he': [av,fv]= [av',fv']:=congrArg Array.toList he;simp only [List.cons.injEq,and_true] at he';obtain ⟨rfl,rfl⟩:=he';exact h4 w x hx ⟨⟨hg.kept,hg.room,ha'⟩,hf'⟩
theorem zaT {B N:Nat} {u:World} {m:Option Nat} {b:Base} (hB:B<=N) (hm:∀r,m=some r->B<=r) (f:Frame) (fs:List Frame) (w:World) (av fv:Value) (h:qQ B u N m b (f::fs) w (.iface 123 (.agg #[av,fv]))):
  zah (.agg #[av,fv]) (fun x=> yC b x (f::fs)) (Good B u N m b (f::fs) (.iface 123 (.agg #[av,fv]))):=by
 obtain ⟨av1,fv1,he,h2,h3⟩:=h;simp only [Value.iface.injEq,Value.agg.injEq,true_and] at he;have he': [av,fv]= [av1,fv1]:=congrArg Array.toList he;simp only [List.cons.injEq,and_true] at he';obtain ⟨rfl,rfl⟩:=he';have ih:=zeh hB hm fs w av h3;have h4:=zg0 ih (fun W W' g hb=> (Good.stays hB hm).below g hb) N m fv f;intro w x hx hg;simp only [zdP];obtain ⟨av',fv',he,hf',ha'⟩:=hg.at_;simp only [Value.iface.injEq,Value.agg.injEq,true_and] at he;have he': [av,fv]= [av',fv']:=congrArg Array.toList he;simp only [List.cons.injEq,and_true] at he';obtain ⟨rfl,rfl⟩:=he';exact h4 w x hx ⟨⟨hg.kept,hg.room,ha'⟩,hf'⟩
end
end Go.Proofs.YtjmlaeofjjhfmaaGreat
