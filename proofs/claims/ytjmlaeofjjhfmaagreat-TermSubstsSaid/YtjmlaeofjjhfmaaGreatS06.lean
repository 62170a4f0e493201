/- Lemmas. -/
import Derived.Test.YtjmlaeofjjhfmaaGreatS02
import Derived.Test.YtjmlaeofjjhfmaaGreatS05
set_option linter.unusedVariables false
set_option linter.unusedSimpArgs false
set_option maxRecDepth 10000
set_option maxHeartbeats 16000000
namespace Go.Proofs.YtjmlaeofjjhfmaaGreat
section
open Go.RowKit Go.Shelf
attribute [local go_sem] Oper.semAt_some
abbrev NdT (B:Nat) (u:World):=Nd B u (fun _=> True)
theorem zix (B:Nat) (u:World) (p:Part) (v:Value) (h:zY B u v p):
  ∃(g:Nat) (cs:List Value) (ty:TypeId),v= .iface ty (.agg cs.toArray)/\((g=216/\ty=83)∨(g=219/\ty=88)∨(g=230/\ty=191))/\
   (p.small->∀w:World,zh B u w->B<=w.heap.size->Calls Tryz.prog g #[.agg cs.toArray] w fun e w'=> ∃r vs,e= .returned r/\w'.ownsRow (w.heap.size + 1) 154 1 r vs.length vs/\ym B u vs p.parts/\Below w.heap.size w w'):=by
 cases p with
 | proc t=>
  obtain ⟨o,t,a,d,k⟩:=t;obtain ⟨cs,rfl,h1,va,vd,vk,rfl,⟨aa,ca,rfl,_,ha⟩,⟨ad,cd,rfl,_,hd⟩,⟨ak,ck,rfl,_,hk⟩⟩:=h;exact ⟨216,_,83,rfl, .inl ⟨rfl,rfl⟩,fun hs w hu hBs=> zcX o t aa ca a ad cd d ak ck k B u w hu hBs hs.1 ha hs.2.1 hd hs.2.2 hk⟩
 | exp t=>
  obtain ⟨o,n,t,k⟩:=t;obtain ⟨cs,rfl,h1,vk,rfl,⟨ak,ck,rfl,_,hk⟩⟩:=h;exact ⟨219,_,88,rfl, .inr (.inl ⟨rfl,rfl⟩),fun hs w hu hBs=> zdW o n t ak ck k B u w hu hBs hs hk⟩
 | def_ t=>
  obtain ⟨f,t,j,d,k⟩:=t;obtain ⟨cs,rfl,h1,vj,vd,vk,rfl,⟨aj,cj,rfl,_,hj⟩,⟨ad,cd,rfl,_,hd⟩,⟨ak,ck,rfl,_,hk⟩⟩:=h;exact ⟨230,_,191,rfl, .inr (.inr ⟨rfl,rfl⟩),fun hs w hu hBs=> zdZ f t aj cj j ad cd d ak ck k B u w hu hBs hs.2.1 hd hs.2.2 hk⟩
def zeo (x:Part×Nat):Prop:=x.1.small/\x.2<=12
set_option maxRecDepth 100000 in
theorem zmH (l n0 n1 bt bw B:Nat) (u:World) (whole:List (Part×Nat)) (J:List (NdT B u)->World->Prop) (Jp:List PanicEntry->List (NdT B u)->World->Prop)
  (hB0:B<=n0) (h01:n0<=n1) (hbt:n1<=bt) (hbw:n1<=bw)
  (hJ:∀pre A W,J pre A->A.grownBy W none->J pre W)
  (hY:∀m pre (x:NdT B u) W,J pre W->(pre ++ [x]).map (fun x=> x.1.2) <+:whole->YieldAt Fence.wide m Tryz.prog l (encN x) W fun e W'=>
   (e= .returned (.bool true)/\zeo x.1.2/\J (pre ++ [x]) W'/\KpC n0 n1 W W')∨(∃c,e= .panicked c/\Jp c (pre ++ [x]) W')):
  ∀(s:Nat) (p:Part),p.size<=s->∀(n lev:Nat) (v:Value) (pre:List (NdT B u)) (W:World),lev<=13->
   zY B u v p->zh B u W->n1<=W.heap.size->W.cell? ⟨bt,0,none⟩=some (.func (.yield l) #[] #[])->
   W.cell? ⟨bw,0,none⟩=some (.func (.func 158) #[] #[.pointer (some ⟨bt,0,none⟩), .pointer (some ⟨bw,0,none⟩)])->J pre W->pre.map (fun x=> x.1.2) ++ zw lev p <+:whole->
   CallsIn Fence.wide n Tryz.prog 158 #[v, .int .i64 lev, .pointer (some ⟨bt,0,none⟩), .pointer (some ⟨bw,0,none⟩)] W fun e W'=>
    (e= .returned (.bool true)/\∃xs:List (NdT B u),xs.map (fun x=> x.1.2)=zw lev p/\J (pre ++ xs) W'/\KpC n0 n1 W W')∨(∃c,e= .panicked c/\∃q:List (NdT B u),q.map (fun x=> x.1.2) <+:whole/\Jp c q W'):=by
 intro s
 induction s with
 | zero=> intro p hp;exact absurd (by rw [Part.size,zv];simp) (Nat.not_lt.2 hp)
 | succ s ih=>
  intro p hps n lev v pre W hlev hv hu hn1 ct cw hJp hN
  have hpre1:(pre ++ [(⟨(v,p,lev),hv,trivial⟩:NdT B u)]).map (fun x:NdT B u=> x.1.2) <+:whole:=by
   refine List.IsPrefix.trans ?_ hN;rw [zv,List.map_append];exact ⟨zM (lev + 1) p.parts,by simp⟩
  obtain ⟨fn,tmps,assign,body,hy,hR⟩:=hY (n - 1) pre (⟨(v,p,lev),hv,trivial⟩:NdT B u) W hJp hpre1;dsimp only [encN] at hy;obtain ⟨g,cs,ty,rfl,hgt,hparts⟩:=zix B u p v hv;have hdd:∀k:Nat,(Fence.wide.depth.isSome=true->1<=k):=fun k h=> by cases h
  refine callsIn_of_wp Tryz.func158 rfl trivial ?_ rfl;simp only [Tryz.ntmps158,List.size_toArray,List.length_cons,List.length_nil,Nat.reduceAdd,Nat.reduceSub,Array.replicate_succ,Array.replicate_zero,List.push_toArray,List.append_toArray,List.nil_append,List.cons_append]
  have hmm:∀W,(method 347 ty (.agg cs.toArray) "cabotage/term.parts").run Tryz.prog W= .ok (g, .agg cs.toArray) W:=by
   rcases hgt with ⟨rfl,rfl⟩ | ⟨rfl,rfl⟩ | ⟨rfl,rfl⟩ <;> exact fun W=> by kernel_rfl
  have hcf:∀args w,(callFunc g args).run Tryz.prog w= .ok (.enter g args) w:=by
   rcases hgt with ⟨rfl,rfl⟩ | ⟨rfl,rfl⟩ | ⟨rfl,rfl⟩
   ·exact enters_of Tryz.func216 (by kernel_rfl) rfl
   ·exact enters_of Tryz.func219 (by kernel_rfl) rfl
   ·exact enters_of Tryz.func230 (by kernel_rfl) rfl
  gi_wp2_with (first
   | ((try refine ⟨hdd _,?_⟩);refine hR.mono ?_;clear hR;rintro e W1 (⟨rfl,⟨hfs,hfl⟩,hJ1,hk1⟩ | ⟨c1,rfl,hx1⟩))
   | (refine ⟨trivial,hdd _,?_⟩;refine (callsIn_wide.2 (hparts hfs W1 (hu.trans (hk1.keptC hB0)) (by have:=hk1.1;omega))).mono ?_;clear hparts;rintro e W2 ⟨r,vs,rfl,hrow,hpsv,hb2⟩;obtain ⟨ra,rcap,rfl,hra⟩:=zb1 hrow;have hlen:=ZH hpsv.1))
  ·try dsimp only at hfs hfl
   obtain ⟨x0,hx0⟩:∃x:NdT B u,x=⟨(_,p,lev),hv,trivial⟩:=⟨_,rfl⟩;have hJ1':J (pre ++ [x0]) W1:=by rw [hx0];exact hJ1
   have hx0':x0.1.2=(p,lev):=by rw [hx0]
   clear hJ1 hx0;have hJ2:=hJ _ _ _ hJ1' (zj hb2);have hk2:KpC n0 n1 W W2:=hk1.trans (KpC.of_below hb2);have hsz1:=hk2.1;have HX:=ZH hx0';have hvl:vs.length<=300:=by have:=zaP hfs;have:=hlen.out;omega
   clear hx0' hJ1' hsz1 hpre1
   gi_loopw [17] (fun i wr=> ∃(k:Nat) (xs:List (NdT B u)),k<=vs.length/\i= .int .i64 k/\Hid (xs.map (fun x=> x.1.2)=zM (lev + 1) (p.parts.take k))/\J (pre ++ [x0] ++ xs) wr/\KpC n0 n1 W2 wr) (fun i _=> vs.length - (intOf i).toNat)
   case atStart=> exact ⟨0, [],by omega,rfl,ZH (by simp [zM]),by simpa using hJ2,KpC.refl _ _ _⟩
   case round=>
    obtain ⟨k,xs,hk',rfl,hxs,hJr,hkr⟩:=hrel;have hkW:KpC n0 n1 W wr:=hk2.trans hkr;have ctr:=hkW.2 _ _ _ (.inr hbt) ct;have cwr:=hkW.2 _ _ _ (.inr hbw) cw;by_cases hlt:k < vs.length
    ·have hlt':k < p.parts.length:=by have:=hlen.out;omega
     rcases hra with rfl | ⟨b,rfl,hbA,hbB,hcl⟩
     ·simp at hlt
     have hcell:=hkr.2 _ _ _ (.inr (by have:=hk1.1;omega)) (hcl k hlt);have hq:=hpsv.2.2 k hlt hlt';have hqs:=qi (ZM hlt')
     have hpn:(pre ++ [x0] ++ xs).map (fun x=> x.1.2) ++ zw (lev + 1) p.parts[k] <+:whole:=by
      refine List.IsPrefix.trans ?_ hN;rw [zv lev,List.map_append,List.map_append,hxs.out,List.map_cons,HX.out,List.map_nil];have e:zM (lev + 1) p.parts=zM (lev + 1) (p.parts.take (k + 1)) ++ zM (lev + 1) (p.parts.drop (k + 1)):=by rw [<-yX,List.take_append_drop]
      rw [e,xP (lev + 1) p.parts k hlt'];exact ⟨zM (lev + 1) (p.parts.drop (k + 1)),by simp [List.append_assoc]⟩
     have ihk:=ih (p.parts[k]) (by omega) (n - 1) (lev + 1) vs[k] (pre ++ [x0] ++ xs) wr (by omega) hq (hu.trans (hkW.keptC hB0)) (by have:=hkW.1;omega) ctr cwr hJr hpn;simp only [Nat.zero_add] at hcell;rw [show (((lev + 1:Nat)):Int)=(lev:Int) + 1 from by omega] at ihk;have htk:=ZH (xP (lev + 1) p.parts k hlt');clear hpn hqs
     gi_wp2_with (first
      | (refine ⟨trivial,hdd _,?_⟩;refine ihk.mono ?_;clear ihk;rintro e W3 (⟨rfl,ys,hys,hJ3,hk3⟩ | ⟨c3,rfl,q,hq3,hx3⟩);have HYS:=ZH hys;clear hys))
     ·go_roundw
      case rel=> exact ⟨k + 1,xs ++ ys,by omega,by go_num,ZH (by rw [htk.out,List.map_append,hxs.out,HYS.out]),by simpa [List.append_assoc] using hJ3,hkr.trans hk3⟩
      case measure=> simp [intOf];omega
     ·exact ⟨rfl, .inr ⟨c3,rfl,q,hq3,hx3⟩⟩
    ·have hk2':k=p.parts.length:=by have:=hlen.out;omega
     have hxs':xs.map (fun x=> x.1.2)=zM (lev + 1) p.parts:=by rw [hxs.out,hk2',List.take_length]
     have HXS:=ZH hxs';clear hxs' hk2'
     gi_wp2
     go_ret;exact .inl ⟨rfl,x0::xs,by rw [List.map_cons,HX.out,HXS.out,zv],by simpa [List.append_assoc] using hJr,hk2.trans hkr⟩
  ·exact ⟨rfl, .inr ⟨c1,rfl,_,hpre1,hx1⟩⟩
set_option maxRecDepth 100000 in
theorem zkP (n l n0 n1 Bp B:Nat) (u:World) (p:Part) (v:Value) (J:List (NdT B u)->World->Prop) (Jp:List PanicEntry->List (NdT B u)->World->Prop)
  (hB0:B<=n0) (h01:n0<=n1) (hv:zY B u v p)
  (hJ:∀pre A W,J pre A->A.grownBy W none->J pre W)
  (hY:∀m pre (x:NdT B u) W,J pre W->(pre ++ [x]).map (fun x=> x.1.2) <+:zw 1 p->YieldAt Fence.wide m Tryz.prog l (encN x) W fun e W'=>
   (e= .returned (.bool true)/\zeo x.1.2/\J (pre ++ [x]) W'/\KpC n0 n1 W W')∨(∃c,e= .panicked c/\Jp c (pre ++ [x]) W'))
  (W:World) (hu:zh B u W) (hn1:n1<=W.heap.size) (hBp:W.cell? ⟨Bp,0,none⟩=some v) (h0:J [] W):
  CallsIn Fence.wide n Tryz.prog 157 #[.func (.yield l) #[] #[], .pointer (some ⟨Bp,0,none⟩)] W fun e W'=>
   (∃v,e= .returned v/\∃xs:List (NdT B u),xs.map (fun x=> x.1.2)=zw 1 p/\J xs W')∨(∃c,e= .panicked c/\∃pre:List (NdT B u),pre.map (fun x=> x.1.2) <+:zw 1 p/\Jp c pre W'):=by
 have hdd:∀k:Nat,(Fence.wide.depth.isSome=true->1<=k):=fun k h=> by cases h
 have hmf:∀(fn:Fn) (first cap:Array Value) (w:World),(Instr.makeFunc fn first cap).run Tryz.prog w= .ok (.func fn first cap) w:=fun _ _ _ _=> rfl;have hBpl:=zD hBp;obtain ⟨W3,hW3⟩:∃W3,W3=((W.alloc (.cells #[.func (.yield l) #[] #[]] 188)).alloc (.cells #[.func (.func 158) #[] #[.pointer (some ⟨W.heap.size,0,none⟩), .pointer (some ⟨W.heap.size + 1,0,none⟩)]] 188)):=⟨_,rfl⟩;have hb3:Below W.heap.size W W3:=by rw [hW3];exact (ZQ W _).alloc (by simp) _
 have ct:W3.cell? ⟨W.heap.size,0,none⟩=some (.func (.yield l) #[] #[]):=by
  rw [hW3,ZP _ _ _ (by simp),ZA _ _ _ _ rfl];rfl
 have cw:W3.cell? ⟨W.heap.size + 1,0,none⟩=some (.func (.func 158) #[] #[.pointer (some ⟨W.heap.size,0,none⟩), .pointer (some ⟨W.heap.size + 1,0,none⟩)]):=by
  rw [hW3,ZA _ _ _ _ (by simp)];rfl
 have hw:=zmH l n0 n1 W.heap.size (W.heap.size + 1) B u (zw 1 p) J Jp hB0 h01 hn1 (by omega) hJ hY p.size p (ZL _) (n - 1) 1 v [] W3 (by omega) hv
  (hu.trans ((Below.keptC hb3).mono (by omega))) (by have:=hb3.size;omega) ct cw (hJ _ _ _ h0 (zj hb3)) (by simp)
 have HW:=ZH hW3;refine callsIn_of_wp Tryz.func157 rfl trivial ?_ rfl;simp only [Tryz.ntmps157,List.size_toArray,List.length_cons,List.length_nil,Nat.reduceAdd,Nat.reduceSub,Array.replicate_succ,Array.replicate_zero,List.push_toArray,List.append_toArray,List.nil_append,List.cons_append];clear hW3
 gi_wp2_with (refine ⟨trivial,hdd _,?_⟩;rw [<-HW.out];refine hw.mono ?_;clear hw;rintro e W1 (⟨rfl,xs,hxs,hJ1,_⟩ | ⟨c1,rfl,q,hq1,hx⟩);have HXS:=ZH hxs;clear hxs)
 ·go_end0
  exact .inl ⟨_,rfl,xs,HXS.out,by simpa using hJ1⟩
 ·exact ⟨rfl, .inr ⟨c1,rfl,q,hq1,hx⟩⟩
theorem zhb (n n0 n1 Bp B:Nat) (u:World) (p:Part) (v:Value) (hB0:B<=n0) (h01:n0<=n1) (hv:zY B u v p) (w:World) (hu:zh B u w) (hn1:n1<=w.heap.size) (hBp:w.cell? ⟨Bp,0,none⟩=some v):
  zkI Fence.wide n Tryz.prog 157 #[.pointer (some ⟨Bp,0,none⟩)] (encN (B:=B) (u:=u) (G:=fun _=> True)) (KpC n0 n1) (fun xs=> xs.map (fun x=> x.1.2)=zw 1 p) (fun xs=> xs.map (fun x=> x.1.2) <+:zw 1 p) (fun _ x=> zeo x.1.2) w:=
 fun l J Jp W hW hJ _ hY h0=>
  zkP n l n0 n1 Bp B u p v J Jp hB0 h01 hv (fun pre A W' h hg=> hJ pre A W' none h hg (by simp)) (fun m pre x W1 a b=> zcz m (hY pre x W1 a b)) W
   (hu.trans (fun b o v hb hv=> (hW.cell (p:=⟨b,o,none⟩) (zD hv)).trans hv)) (by have:=hW.size;omega) ((hW.cell (p:=⟨Bp,0,none⟩) (zD hBp)).trans hBp) h0
end
section
open Go.RowKit Go.Maps
theorem zba (s:ByteArray):s.toList= []↔s.size=0:=by
 rw [ByteArray.toList_eq];cases s with | mk d=> simp [ByteArray.size]
theorem qA {a b:Bool} (h:a=b):Ending.returned (.bool a)= .returned (.bool b):=by rw [h]
theorem zgq (op n:Int) (text:ByteArray) (a:Option Addr) (cap:Nat) (kids:List Exp) (w:World) (hz:text.size<=maxLen) (hl:kids.length<=9223372036854775807):
  Calls Tryz.prog 160 #[.agg #[.int .i64 op, .int .i64 n, .string text, .slice a kids.length cap]] w fun e w'=> e= .returned (.bool (j8 (.mk op n text kids)))/\Below w.heap.size w w':=by
 obtain ⟨lk,hlk⟩:∃lk,lk=kids.length:=⟨_,rfl⟩
 have hS:Hid (j8 (.mk op n text kids)=((op==1 && decide (-1000000000<=n) && decide (n<=1000000000) && text.size==0 && lk==0) ||
   (op==2 && n==0 && qn text && lk==0) || (decide (3<=op) && decide (op<=7) && n==0 && text.size==0 && lk==2))):=ZH (by rw [hlk];rfl)
 rw [<-hlk] at hl ⊢;clear hlk;generalize j8 (.mk op n text kids)=R at hS ⊢;have hb0:Below w.heap.size w (w.alloc (.cells #[.int .i64 op, .int .i64 n, .string text, .slice a lk cap] 88)):=ZQ w _;go_enter Tryz.func160,Tryz.ntmps160;go_wp2_with (go_at_call 16;refine (j4 _ _ hz).mono ?_;rintro e w1 ⟨rfl,hb1⟩;have hcc:=(hb1.cell (p:=⟨w.heap.size,3,none⟩) (by simp)).trans (ZA _ _ _ _ rfl));all_goals go_ret
 all_goals refine ⟨qA ?_,by first | exact ZQ w _ | exact (ZQ w _).trans (hb1.mono (by simp))⟩
 all_goals rw [hS.out,Bool.eq_iff_iff]
 all_goals clear hS hb0
 all_goals try clear hcc hb1
 all_goals generalize qn text=nb at *
 all_goals cases nb <;> simp only [zba,Bool.or_eq_true,Bool.and_eq_true,beq_iff_eq,decide_eq_true_eq,Bool.not_eq_true,beq_eq_false_iff_ne,ne_eq,Bool.false_eq_true,false_iff,true_iff,iff_false,iff_true,List.isEmpty_iff,reduceCtorEq,and_true,true_and,and_false,false_and,or_false,false_or,not_true_eq_false,not_false_eq_true] at *
 all_goals first | omega | skip
theorem zfg (op:Int) (text:ByteArray) (a0:Option Addr) (p0:Nat) (args:List Exp) (a1:Option Addr) (p1:Nat) (defs:List zg) (a2:Option Addr) (p2:Nat) (kids:List Term) (w:World) (hz:text.size<=maxLen) (l0:args.length<=9223372036854775807) (l1:defs.length<=9223372036854775807) (l2:kids.length<=9223372036854775807):
  Calls Tryz.prog 159 #[.agg #[.int .i64 op, .string text, .slice a0 args.length p0, .slice a1 defs.length p1, .slice a2 kids.length p2]] w fun e w'=> e= .returned (.bool (yg (.mk op text args defs kids)))/\Below w.heap.size w w':=by
 obtain ⟨la,hla⟩:∃la,la=args.length:=⟨_,rfl⟩;obtain ⟨ld,hld⟩:∃ld,ld=defs.length:=⟨_,rfl⟩;obtain ⟨lk,hlk⟩:∃lk,lk=kids.length:=⟨_,rfl⟩
 have hS:Hid (yg (.mk op text args defs kids)=(((op==1 || op==7) && text.size==0 && la==0 && ld==0 && lk==0) ||
  (op==2 && qn text && decide (la<=3) && ld==0 && lk==0) ||
  (op==3 && text.size==0 && la==0 && ld==0 && lk==2) ||
  (op==4 && text.size==0 && la==0 && decide (1<=ld) && decide (ld<=5) && lk==1) ||
  (op==5 && text.size==0 && la==1 && ld==0 && lk==2) ||
  ((op==6 || op==8) && qn text && la==0 && ld==0 && lk==1))):=ZH (by rw [hla,hld,hlk];rfl)
 rw [<-hla,<-hld,<-hlk] at *;clear hla hld hlk;generalize yg (.mk op text args defs kids)=R at hS ⊢;go_enter Tryz.func159,Tryz.ntmps159;go_wp2
 go_region
 go_wp2_with (go_at_call 16;refine (j4 _ _ hz).mono ?_;rintro e w1 ⟨rfl,hb1⟩);all_goals go_ret
 all_goals refine ⟨qA ?_,by first | exact (ZQ w _).drew | exact (ZQ w _).drew.trans (hb1.mono (by simp))⟩
 all_goals rw [hS.out,Bool.eq_iff_iff]
 all_goals clear hS
 all_goals try clear hb1
 all_goals generalize qn text=nb at *
 all_goals cases nb <;> simp only [zba,Bool.or_eq_true,Bool.and_eq_true,beq_iff_eq,decide_eq_true_eq,Bool.not_eq_true,beq_eq_false_iff_ne,ne_eq,Bool.false_eq_true,false_iff,true_iff,iff_false,iff_true,List.isEmpty_iff,reduceCtorEq,and_true,true_and,and_false,false_and,or_false,false_or,not_true_eq_false,not_false_eq_true] at *
 all_goals first | omega | skip
theorem ziZ (a:Option Addr) (cap:Nat) (js:List Msg) (B:Nat) (u w:World) (hu:zh B u w) (hBs:B<=w.heap.size) (hj:js.length=0∨∃b off,a=some ⟨b,off,none⟩/\b < B/\zX B u b off js) (hjl:js.length<=9223372036854775807):
  Calls Tryz.prog 178 #[.slice a js.length cap] w fun e w'=> e= .returned (.bool (qH js))/\Below w.heap.size w w':=by
 by_cases h12:1<=js.length/\js.length<=3
 case neg=>
  have hF:Hid (qH js=false):=ZH (by
   unfold qH
   have:(decide (1<=js.length) && decide (js.length<=3))=false:=by
    rw [Bool.eq_false_iff];simp only [ne_eq,Bool.and_eq_true,decide_eq_true_eq];exact h12
   rw [this];rfl)
  obtain ⟨n,hn⟩:∃n,n=js.length:=⟨_,rfl⟩;rw [<-hn] at h12 hjl ⊢;rw [hF.out];clear hn hj hF;go_enter Tryz.func178,Tryz.ntmps178;by_cases h0:n < 1
  ·obtain rfl:n=0:=by omega
   go_wp2;go_ret;exact ⟨rfl,ZF _ _⟩
  ·have h3:3 < n:=by omega
   have h1:1<=n:=by omega
   go_wp2;go_ret;exact ⟨rfl,ZF _ _⟩
 obtain ⟨h1,h2⟩:=h12;obtain ⟨i0,hi,hz0,hz1,hz2⟩:=info_parts zaK;go_enter Tryz.func178,Tryz.ntmps178;go_wp2
 go_loopw [3,4,17] (fun v3 v4 i wr=> ∃(k:Nat),k<=js.length/\i= .int .i64 k/\Below w.heap.size w wr/\wr.ownsRow w.heap.size 9 1 v3 k (zn ((js.take k).map (·.text)))/\
   wr.ownsRow w.heap.size 9 1 v4 ((js.take k).flatMap (·.names)).length (zn ((js.take k).flatMap (·.names)))/\Away v3 v4/\Hid (∀j∈js.take k,j.names.length<=3)) (fun _ _ i _=> js.length - (intOf i).toNat)
 case atStart=> exact ⟨0,by omega,rfl,ZF _ _,ZR _ _ _ _,ZR _ _ _ _,(fun g e=> by cases e),ZH (by simp)⟩
 case round=>
  obtain ⟨k,hk',rfl,hB,ho3,ho4,haw,hall3⟩:=hrel;have hsz:=hB.size;by_cases hlt:k < js.length
  ·rcases hj with h0 | ⟨b,off,rfl,hb,hms⟩
   ·omega
   obtain ⟨cs,hcs,hz1',nv,rfl,hns⟩:=hms.get js b off k hlt;obtain ⟨c0,c1⟩:=yO ((hcs.keep hu hb).below hB (by omega));have hst:=(hns.keep hu).mono hBs |>.below hB;have hjm:js.length<=3:=h2
   have hfl:((js.take k).flatMap (·.names)).length<=100:=by
    have hall:∀(l:List Msg),(∀j∈l,j.names.length<=3)->(l.flatMap (·.names)).length<=3 * l.length:=by
     intro l;induction l with
     | nil=> intro _;simp
     | cons x l ih=> intro hx;have a1:=hx x (by simp);have a2:=ih (fun j hj=> hx j (by simp [hj]));simp at a1 a2 ⊢;omega
    have:=hall (js.take k) hall3.out;have h4:(js.take k).length<=3:=by rw [List.length_take];omega
    omega
   have e3:=ZH (show (js.take (k + 1)).map (·.text)=(js.take k).map (·.text) ++ [(js[k]).text] by rw [ZT hlt,List.map_append];rfl);have e4:=ZH (show (js.take (k + 1)).flatMap (·.names)=(js.take k).flatMap (·.names) ++ (js[k]).names by rw [ZT hlt,List.flatMap_append];simp);obtain ⟨jt,hjt⟩:∃x,x=(js[k]).text:=⟨_,rfl⟩;obtain ⟨jn,hjn⟩:∃x,x=(js[k]).names:=⟨_,rfl⟩
   have hallk:jn.length<=3->∀j∈js.take (k + 1),j.names.length<=3:=by
    intro h3 j hj;rw [ZT hlt,List.mem_append] at hj;rcases hj with hj | hj
    ·exact hall3.out j hj
    ·simp at hj;rw [hj,<-hjn];exact h3
   have hbad:3 < jn.length->qH js=false:=by
    intro h3;unfold qH
    have:js.all (fun j=> decide (j.names.length<=3))=false:=by
     rw [List.all_eq_false];exact ⟨_,ZM hlt,by rw [<-hjn];simp;omega⟩
    rw [this];simp
   have HAK:=ZH hallk;have HBAD:=ZH hbad;clear hallk hbad;rw [<-hjt] at e3 c0;rw [<-hjn] at e4 hst;clear hjt hjn hcs hns;obtain ⟨na,nc,rfl,hnl,hnz,hncap,hncells⟩:=hst;by_cases hn3:jn.length<=3
   case neg=>
    have hn3':3 < jn.length:=by omega
    have hF:=ZH (HBAD.out hn3');go_wp2;go_ret;exact ⟨qA hF.out.symm,hB.alloc hsz _⟩
   have HN:=ZH (HAK.out hn3)
   have fin:∀(w1 w2:World) (v3' v4':Value),w1.ownsRow w.heap.size 9 1 v3' (k + 1) (zn ((js.take k).map (·.text)) ++ [.string jt])->((wr.alloc (.cells #[.string jt, .slice na jn.length nc] 144)).alloc (.cells #[.string jt] 9)).grownBy w1 u3.ownBlock->
     (v3'.ownBlock=u3.ownBlock∨v3'.ownBlock=some (wr.heap.size + 2))->w2.ownsRow w.heap.size 9 1 v4' (((js.take k).flatMap (·.names)).length + jn.length) (zn ((js.take k).flatMap (·.names)) ++ zn jn)->
     w1.grownBy w2 u4.ownBlock->(v4'.ownBlock=u4.ownBlock∨v4'.ownBlock=some w1.heap.size)->
     Below w.heap.size w w2/\w2.ownsRow w.heap.size 9 1 v3' (k + 1) (zn ((js.take (k + 1)).map (·.text)))/\w2.ownsRow w.heap.size 9 1 v4' ((js.take (k + 1)).flatMap (·.names)).length (zn ((js.take (k + 1)).flatMap (·.names)))/\Away v3' v4':=by
    intro w1 w2 v3' v4' o3 g1 p3 o4 g2 p4;have l3:=ho3.lt;have l4:=ho4.lt;have B1:Below w.heap.size w w1:=((hB.alloc hsz _).alloc (by simp;omega) _).grown g1 (by simp;omega) (fun k e=> (l3 k e).1);have B2:Below w.heap.size w w2:=B1.grown g2 B1.size (fun k e=> (l4 k e).1);have gs:=g1.size;simp at gs;refine ⟨B2,?_,?_,?_⟩
    ·rw [e3.out];simp only [zn,List.map_append]
     refine qX o3 g2 (fun g hg e=> ?_);rcases p3 with p3 | p3
     ·exact haw g (by rw [<-p3];exact hg) e
     ·have:=(l4 g e).2;rw [p3] at hg;cases hg;omega
    ·rw [e4.out];simp only [zn,List.map_append,List.length_append];exact o4
    ·intro g hg e
     have q3:=o3.lt g hg;rcases p4 with p4 | p4
     ·rcases p3 with p3 | p3
      ·exact haw g (by rw [<-p3];exact hg) (by rw [<-p4];exact e)
      ·have:=(l4 g (by rw [<-p4];exact e)).2;rw [p3] at hg;cases hg;omega
     ·rw [p4] at e;cases e;omega
   have FIN:=ZH fin;clear fin;have l3:=ZH ho3.lt;rcases na with _ | nad
   ·obtain rfl:=hncap rfl
    have hj0:jn= []:=by rcases hncells with h | ⟨_,_,h,_⟩;exact h;cases h
    subst hj0
    have D1:Hid (∀w1,((wr.alloc (.cells #[.string jt, .slice none 0 0] 144)).alloc (.cells #[.string jt] 9)).grownBy w1 u3.ownBlock->w1.cell? ⟨wr.heap.size,1,none⟩=some (.slice none 0 0)):=ZH (fun w1 g1=> by
     refine (ZB (w:=(wr.alloc (.cells #[.string jt, .slice none 0 0] 144)).alloc (.cells #[.string jt] 9)) (g1.block wr.heap.size (by simp;omega) (by intro e;have:=l3.out _ e.symm;omega))).trans ?_;rw [ZP _ _ _ (by simp),ZA _ _ _ _ rfl];rfl)
    go_wp2_with (first
     | (show wpList _ _ _ (⟨some 29,_,_,_,_,_⟩::_) _ _;refine wpList_append_own_at _ rfl (.tmp 25) (.tmp 28) 22 rfl w.heap.size 9 i0 (.string ⟨#[]⟩) 1 16 Tryz.underlying22 hi hz0 hz1 hz2 rfl (by decide) _ _ _ rfl ((ho3.alloc _).alloc _) ⟨wr.heap.size + 1,0,none⟩ 1 1 [.string jt] rfl rfl (yw _ _ _ _ (by simp)) (by simp [Value.oneCell']) (by unfold maxLen;omega) (by omega) (by simp;omega) ?_;intro v3' w1 o3 g1 _ p3;have d1:=D1.out w1 g1;have o4':=qX ((ho4.alloc (.cells #[.string jt, .slice none 0 0] 144)).alloc (.cells #[.string jt] 9)) g1 (fun g hg e=> haw g e hg);have gs1:=g1.size;simp at gs1)
     | (show wpList _ _ _ (⟨some 33,_,_,_,_,_⟩::_) _ _;refine wpList_append_own_none rfl (.tmp 30) (.tmp 32) 22 rfl w.heap.size 9 i0 1 Tryz.underlying22 hi _ _ _ rfl o4' rfl ?_))
    go_roundw
    case rel=>
     obtain ⟨q1,q2,q3,q4⟩:=FIN.out w1 w1 v3' u4 o3 g1 (p3.imp id (fun h=> by simpa using h)) (by simpa [zn] using o4') (World.grownBy.refl _ _) (.inl rfl);exact ⟨k + 1,by omega,by go_num,q1,q2,q3,q4,HN⟩
    case measure=> simp [intOf];omega
   ·have D1:Hid (∀w1,((wr.alloc (.cells #[.string jt, .slice (some nad) jn.length nc] 144)).alloc (.cells #[.string jt] 9)).grownBy w1 u3.ownBlock->w1.cell? ⟨wr.heap.size,1,none⟩=some (.slice (some nad) jn.length nc)):=ZH (fun w1 g1=> by
     refine (ZB (w:=(wr.alloc (.cells #[.string jt, .slice (some nad) jn.length nc] 144)).alloc (.cells #[.string jt] 9)) (g1.block wr.heap.size (by simp;omega) (by intro e;have:=l3.out _ e.symm;omega))).trans ?_;rw [ZP _ _ _ (by simp),ZA _ _ _ _ rfl];rfl)
    have hnews:Hid (∀w1,((wr.alloc (.cells #[.string jt, .slice (some nad) jn.length nc] 144)).alloc (.cells #[.string jt] 9)).grownBy w1 u3.ownBlock->∀j x,(zn jn)[j]?=some x->w1.cell? (nad.add j)=some x):=ZH (fun w1 g1 j x hx=> by
     have B1:Below w.heap.size w w1:=((hB.alloc hsz _).alloc (by simp;omega) _).grown g1 (by simp;omega) (fun k e=> (l3.out k e).1);have Br:Below w.heap.size wr w1:=(((ZF w.heap.size wr).alloc hsz _).alloc (by simp;omega) _).grown g1 (by simp;omega) (fun k e=> (l3.out k e).1);rcases hncells with h | ⟨nb,noff,hn,hnb,hnc⟩
     ·subst h;simp [zn] at hx
     ·cases hn
      have hj:j < jn.length:=by
       have:=(List.getElem?_eq_some_iff.1 hx).1;simpa [zn] using this
      have:=hnc j hj;simp [zn,hj] at hx;subst hx
      have e:(⟨nb,noff,none⟩:Addr).add j=⟨nb,noff + j,none⟩:=by
       unfold Addr.add;by_cases h:j=0 <;> simp [h]
      rw [e];exact (Br.cell (p:=⟨nb,noff + j,none⟩) hnb).trans this)
    go_wp2_with (first
     | (show wpList _ _ _ (⟨some 29,_,_,_,_,_⟩::_) _ _;refine wpList_append_own_at _ rfl (.tmp 25) (.tmp 28) 22 rfl w.heap.size 9 i0 (.string ⟨#[]⟩) 1 16 Tryz.underlying22 hi hz0 hz1 hz2 rfl (by decide) _ _ _ rfl ((ho3.alloc _).alloc _) ⟨wr.heap.size + 1,0,none⟩ 1 1 [.string jt] rfl rfl (yw _ _ _ _ (by simp)) (by simp [Value.oneCell']) (by unfold maxLen;omega) (by omega) (by simp;omega) ?_;intro v3' w1 o3 g1 _ p3;have d1:=D1.out w1 g1;have o4':=qX ((ho4.alloc (.cells #[.string jt, .slice (some nad) jn.length nc] 144)).alloc (.cells #[.string jt] 9)) g1 (fun g hg e=> haw g e hg);have gs1:=g1.size;simp at gs1)
     | (show wpList _ _ _ (⟨some 33,_,_,_,_,_⟩::_) _ _;refine wpList_append_own_at _ rfl (.tmp 30) (.tmp 32) 22 rfl w.heap.size 9 i0 (.string ⟨#[]⟩) 1 16 Tryz.underlying22 hi hz0 hz1 hz2 rfl (by decide) _ _ _ rfl o4' nad jn.length nc (zn jn) rfl (by simp [zn]) (hnews.out _ g1) (by simp [zn,Value.oneCell']) (by unfold maxLen;omega) (by omega) (by omega) ?_;intro v4' w2 o4 g2 _ p4))
    go_roundw
    case rel=>
     obtain ⟨q1,q2,q3,q4⟩:=FIN.out w1 w2 v3' v4' o3 g1 (p3.imp id (fun h=> by simpa using h)) o4 g2 p4;exact ⟨k + 1,by omega,by go_num,q1,q2,q3,q4,HN⟩
    case measure=> simp [intOf];omega
  ·obtain rfl:k=js.length:=by omega
   rw [List.take_length] at ho3 ho4
   have hzt:∀s∈js.map (·.text),s.size<=maxLen:=by
    intro s hs;obtain ⟨j,hj',rfl⟩:=List.mem_map.1 hs;rcases hj with h0 | ⟨b,off,_,hb,hms⟩
    ·omega
    ·obtain ⟨i,hi',rfl⟩:=List.getElem_of_mem hj'
     obtain ⟨cs,hcs,hz1',_⟩:=hms.get js b off i hi';exact hz1'
   have hzn:∀s∈js.flatMap (·.names),s.size<=maxLen:=by
    intro s hs;obtain ⟨j,hj',hsj⟩:=List.mem_flatMap.1 hs;rcases hj with h0 | ⟨b,off,_,hb,hms⟩
    ·omega
    ·obtain ⟨i,hi',rfl⟩:=List.getElem_of_mem hj'
     obtain ⟨cs,hcs,hz1',nv,_,hns⟩:=hms.get js b off i hi';obtain ⟨_,_,_,_,hnz,_⟩:=hns;exact hnz s hsj
   have s3:=qM (ss:=js.map (·.text)) (by simpa using ho3) hzt;have s4:=qM ho4 hzn;have d3:=zeJ u3 (js.map (·.text)) wr s3;have S4:=ZH s4
   have hall3':js.all (fun j=> decide (j.names.length<=3))=true:=by
    rw [List.all_eq_true];intro j hj;have:=hall3.out j (by rw [List.take_length];exact hj);simpa using this
   have hJ:Hid (qH js=(jF (js.map (·.text)) && jF (js.flatMap (·.names)))):=ZH (by
    unfold qH;rw [hall3'];simp [h1,h2])
   clear hall3';go_wp2_with fail;refine d3.mono ?_;clear d3;rintro e w1 ⟨rfl,hb1⟩;have d4:=zeJ u4 (js.flatMap (·.names)) w1 ((S4.out.below hb1).mono hb1.size);cases hd1:jF (js.map (·.text)) with
   | false=>
    go_wp2_with fail;go_ret;exact ⟨qA (by rw [hJ.out,hd1];rfl),hB.trans (hb1.mono hsz)⟩
   | true=>
    go_wp2_with fail;refine d4.mono ?_;clear d4;rintro e w2 ⟨rfl,hb2⟩;go_wp2;go_ret;exact ⟨qA (by rw [hJ.out,hd1];simp),hB.trans ((hb1.trans (hb2.mono hb1.size)).mono hsz)⟩
theorem zgi (form:Int) (text:ByteArray) (a0:Option Addr) (p0:Nat) (joins:List Msg) (a1:Option Addr) (p1:Nat) (defs:List zg) (a2:Option Addr) (p2:Nat) (kids:List Term) (B:Nat) (u w:World) (hu:zh B u w) (hBs:B<=w.heap.size)
  (hj:joins.length=0∨∃b off,a0=some ⟨b,off,none⟩/\b < B/\zX B u b off joins) (hz:text.size<=maxLen) (l0:joins.length<=9223372036854775807) (l1:defs.length<=9223372036854775807) (l2:kids.length<=9223372036854775807):
  Calls Tryz.prog 161 #[.agg #[.int .i64 form, .string text, .slice a0 joins.length p0, .slice a1 defs.length p1, .slice a2 kids.length p2]] w fun e w'=> e= .returned (.bool (yB (.mk form text joins defs kids)))/\Below w.heap.size w w':=by
 have hb0:Below w.heap.size w (w.alloc (.cells #[.int .i64 form, .string text, .slice a0 joins.length p0, .slice a1 defs.length p1, .slice a2 kids.length p2] 191)).drew:=(ZQ w _).drew;have hjn:=ziZ a0 p0 joins B u (w.alloc (.cells #[.int .i64 form, .string text, .slice a0 joins.length p0, .slice a1 defs.length p1, .slice a2 kids.length p2] 191)).drew (hu.trans ((Below.keptC hb0).mono hBs)) (by simp;omega) hj l0;obtain ⟨lj,hlj⟩:∃lj,lj=joins.length:=⟨_,rfl⟩;obtain ⟨ld,hld⟩:∃ld,ld=defs.length:=⟨_,rfl⟩;obtain ⟨lk,hlk⟩:∃lk,lk=kids.length:=⟨_,rfl⟩
 have hS:Hid (yB (.mk form text joins defs kids)=((form==1 && text.size==0 && qH joins && ld==0 && lk==1) ||
  (form==2 && qn text && lj==0 && decide (ld<=5) && lk==1))):=ZH (by rw [hlj,hld,hlk];rfl)
 rw [<-hlj] at l0 hj hb0 hjn ⊢;rw [<-hld] at l1 hb0 hjn ⊢;rw [<-hlk] at l2 hb0 hjn ⊢;clear hlj hld hlk hj;generalize yB (.mk form text joins defs kids)=R at hS ⊢;generalize qH joins=jb at hS hjn ⊢
 have hcell:(w.alloc (.cells #[.int .i64 form, .string text, .slice a0 lj p0, .slice a1 ld p1, .slice a2 lk p2] 191)).drew.cell? ⟨w.heap.size,2,none⟩=some (.slice a0 lj p0):=by
  show World.cell? (w.alloc _) _=_;rw [ZA _ _ _ _ rfl];rfl
 have HC:=ZH hcell;clear hcell;have HJ:=ZH hjn;clear hjn;go_enter Tryz.func161,Tryz.ntmps161;go_wp2
 go_region
 go_wp2_with (first
  | (go_at_call 178;refine HJ.out.mono ?_;rintro e w1 ⟨rfl,hb1⟩)
  | (go_at_call 16;refine (j4 _ _ hz).mono ?_;rintro e w1 ⟨rfl,hb1⟩;have hcc:=(hb1.cell (p:=⟨w.heap.size,2,none⟩) (by simp)).trans HC.out))
 all_goals go_ret
 all_goals refine ⟨qA ?_,by first | exact (ZQ w _).drew | exact (ZQ w _).drew.trans (hb1.mono (by simp))⟩
 all_goals rw [hS.out,Bool.eq_iff_iff]
 all_goals clear hS HJ HC hb0
 all_goals try clear hb1
 all_goals try clear hcc
 all_goals generalize qn text=nb at *
 all_goals cases nb <;> cases jb <;> simp only [zba,Bool.or_eq_true,Bool.and_eq_true,beq_iff_eq,decide_eq_true_eq,Bool.not_eq_true,beq_eq_false_iff_ne,ne_eq,Bool.false_eq_true,false_iff,true_iff,iff_false,iff_true,List.isEmpty_iff,reduceCtorEq,and_true,true_and,and_false,false_and,or_false,false_or,not_true_eq_false,not_false_eq_true] at *
 all_goals first | omega | skip
theorem zje (p:Part) (v:Value) (B:Nat) (u w:World) (hu:zh B u w) (hBs:B<=w.heap.size) (hv:zY B u v p):
  Calls Tryz.prog 117 #[v] w fun e w'=> e= .returned (.bool p.shaped)/\Below w.heap.size w w':=by
 cases p with
 | proc t=>
  obtain ⟨o,t,a,d,k⟩:=t;obtain ⟨cs,rfl,h1,va,vd,vk,rfl,⟨aa,ca,rfl,la,ha⟩,⟨ad,cd,rfl,ld,hd⟩,⟨ak,ck,rfl,lk,hk⟩⟩:=hv;have q1:=zcr;have q2:=zdX;have q3:=zcH;have q4:=zcp;have q5:=zbQ;have q6:=zdc;go_enter Tryz.func117,Tryz.ntmps117;go_wp2_with (go_at_call 159;refine (zfg _ _ _ _ _ _ _ _ _ _ _ _ h1 la ld lk).mono ?_;rintro e w1 ⟨rfl,hb1⟩);go_ret;exact ⟨rfl,(ZQ w _).trans (hb1.mono (by simp))⟩
 | exp t=>
  obtain ⟨o,n,t,k⟩:=t;obtain ⟨cs,rfl,h1,vk,rfl,⟨ak,ck,rfl,lk,hk⟩⟩:=hv;have q1:=zcr;have q2:=zdX;have q3:=zcH;have q4:=zcp;have q5:=zbQ;have q6:=zdc;go_enter Tryz.func117,Tryz.ntmps117;go_wp2_with (go_at_call 160;refine (zgq _ _ _ _ _ _ _ h1 lk).mono ?_;rintro e w1 ⟨rfl,hb1⟩);go_ret;exact ⟨rfl,(ZQ w _).trans (hb1.mono (by simp))⟩
 | def_ t=>
  obtain ⟨f,t,j,d,k⟩:=t;obtain ⟨cs,rfl,h1,vj,vd,vk,rfl,⟨aj,cj,rfl,lj,hj⟩,⟨ad,cd,rfl,ld,hd⟩,⟨ak,ck,rfl,lk,hk⟩⟩:=hv;have hb0:=(ZF w.heap.size w).alloc (ZL _) (.cells #[.int .i64 f, .string t, .slice aj j.length cj, .slice ad d.length cd, .slice ak k.length ck] 191);have hc:=zgi f t aj cj j ad cd d ak ck k B u _ (hu.trans ((Below.keptC hb0).mono hBs)) (by simp;omega) hj h1 lj ld lk;have q1:=zcr;have q2:=zdX;have q3:=zcH;have q4:=zcp;have q5:=zbQ;have q6:=zdc;go_enter Tryz.func117,Tryz.ntmps117;go_wp2_with (go_at_call 161;refine hc.mono ?_;clear hc;rintro e w1 ⟨rfl,hb1⟩);go_ret;exact ⟨rfl,hb0.trans (hb1.mono (by simp))⟩
end
end Go.Proofs.YtjmlaeofjjhfmaaGreat
