/- Lemmas. -/
import Derived.Test.YtjmlaeofjjhfmaaGreatS13
import Derived.Deep.RegionLaw
import Derived.Deep.RegionHeld3
set_option linter.unusedVariables false
set_option linter.unusedSimpArgs false
set_option maxRecDepth 10000
set_option maxHeartbeats 16000000
namespace Go.Proofs.YtjmlaeofjjhfmaaGreat
section
open Go.RowKit Go.Shelf Go.Maps Go.WideMaps
theorem zkg (n:Nat) (ty:TypeId) (v fv:Value) (W:World):(method (n + 1) 123 (.agg #[.iface ty v,fv]) "cabotage/term.choose").run Tryz.prog W=(method n ty v "cabotage/term.choose").run Tryz.prog W:=by kernel_rfl
theorem ziU (n:Nat) (ty:TypeId) (v fv:Value) (W:World):(method (n + 1) 123 (.agg #[.iface ty v,fv]) "cabotage/term.renames").run Tryz.prog W=(method n ty v "cabotage/term.renames").run Tryz.prog W:=by kernel_rfl
theorem zbx {B N:Nat} {u:World} {m:Option Nat} {b:Base}:∀{fs:List Frame} {w:World} {v:Value},qQ B u N m b fs w v->∃ty cs,v= .iface ty (.agg cs)
 | [],_,_,h=> by
  cases b with
  | outside=> exact ⟨_,_,h⟩
  | anew=> exact ⟨_,_,h⟩
  | putting y e=> obtain ⟨_,_,o,n,t,a,k,c,rfl,_⟩:=h;exact ⟨_,_,rfl⟩
 | _::_,_,_,⟨av,fv,h,_⟩=> ⟨_,_,h⟩
set_option maxRecDepth 100000 in
theorem zcS {B N:Nat} {u:World} {m:Option Nat} {b:Base} (W:World):∀(fs:List Frame) (n:Nat) (w:World) (ty:TypeId) (cs:Array Value),fs.length < n->qQ B u N m b fs w (.iface ty (.agg cs))->
  (method n ty (.agg cs) "cabotage/term.choose").run Tryz.prog W= .ok (223, .agg #[.map m]) W
 | [],n + 1,w,ty,cs,_,h=> by
  cases b with
  | outside=>
   obtain ⟨rfl,rfl⟩:ty=116/\cs=#[.map m]:=by have h':Value.iface ty (.agg cs)= .iface 116 (.agg #[.map m]):=h;injection h' with h1 h2;injection h2 with h2;exact ⟨h1,h2⟩
   kernel_rfl
  | anew=>
   obtain ⟨rfl,rfl⟩:ty=134/\cs=#[.map m]:=by have h':Value.iface ty (.agg cs)= .iface 134 (.agg #[.map m]):=h;injection h' with h1 h2;injection h2 with h2;exact ⟨h1,h2⟩
   kernel_rfl
  | putting y e=>
   obtain ⟨_,_,o,k,t,a,l,c,he,_⟩:=h
   injection he with h1 h2;injection h2 with h2
   subst h1;subst h2
   kernel_rfl
 | f::fs,n + 1,w,ty,cs,hn,h=> by
  obtain ⟨av,fv,he,_,ha⟩:=h
  injection he with h1 h2;injection h2 with h2
  subst h1;subst h2;obtain ⟨ty',cs',rfl⟩:=zbx ha;rw [zkg];exact zcS W fs n w ty' cs' (by simp at hn;omega) ha
theorem zju (b n:Nat) (U:Used) (w:World) (hS:SetF w b n U) (hn:n < maxLen) (k:Nat) (hC:Cov U k) (hk:k<=4900):
  Calls Tryz.prog 223 #[.agg #[.map (some b)]] w fun e w'=> e= .returned (.string (mkB (choose U)))/\SetF w' b (n + 1) (xl U (choose U))/\w.grownBy w' (some b):=by
 obtain ⟨j0,hj0,hg0⟩:=hC.free hk;have hgd:∀j,jZ U j=true↔(yp (strN j)=true/\U (strN j)=false):=fun j=> by unfold jZ;simp
 have hb0:Below w.heap.size w (w.alloc (.cells #[.map (some b)] 116)):=ZQ w _;have hun:=(callsIn_wide (n:=6)).1 (zfB 6 (by omega) (w.alloc (.cells #[.map (some b)] 116)) b n U (hS.later hb0) j0 hj0 ((hgd j0).1 hg0))
 have cbox:∀W,Below (w.alloc (.cells #[.map (some b)] 116)).heap.size (w.alloc (.cells #[.map (some b)] 116)) W->W.cell? ⟨w.heap.size,0,none⟩=some (.map (some b)):=fun W h=> by
  refine (h.cell (p:=⟨w.heap.size,0,none⟩) (by simp)).trans ?_;rw [ZA _ _ _ _ rfl];rfl
 have hbw:=hS.lt;have hjj:∀j,(∀i,i < j->¬(yp (strN i)=true/\U (strN i)=false))->j < 5000:=fun j h=> Classical.byContradiction fun hn=> h j0 (by omega) ((hgd j0).1 hg0)
 have hsm:∀j,(∀i,i < j->¬(yp (strN i)=true/\U (strN i)=false))->(mkB (strN j)).size<=maxLen:=fun j h=> by
  have h1:=hjj j h;have h2:=zfE j;have h3:(mkB (strN j)).size=(strN j).length:=by simp [mkB,ByteArray.size]
  rw [h3];unfold maxLen;omega
 go_enter Tryz.func223,Tryz.ntmps223;go_wp2_with (go_at_call 56;refine hun.mono ?_;clear hun;rintro e w1 ⟨j,rfl,h1,h2,hb1⟩;have c0:=cbox w1 hb1;have hsz:=hsm j h2;obtain ⟨w2,r2,s2,g2⟩:=(hS.later (hb0.trans (hb1.mono (by simp)))).put hn (k:=mkB (strN j)) hsz);go_ret;have hch:strN j=choose U:=zkn ((hgd j).2 h1) (fun i hi hc=> h2 i hi ((hgd i).1 hc)) (hjj j h2);refine ⟨by rw [hch];rfl,s2.congr fun x=> ?_,zk (zk (qx w (some b)) (zj (hb0.trans (hb1.mono (by simp)))) (by simp)) g2 (fun r h=> .inr h)⟩;unfold xl;rw [yv,hch]
def Bnd (av:Value) (T:List UInt8->Bool) (good:World->Prop):Prop:=
 ∃ty cs g rcv,av= .iface ty (.agg cs)/\(∀W,(method 347 ty (.agg cs) "cabotage/term.binds").run Tryz.prog W= .ok (g,rcv) W)/\(∀args W,(callFunc g args).run Tryz.prog W= .ok (.enter g args) W)/\
  ∀w x,x.size<=maxLen->good w->Calls Tryz.prog g #[rcv, .string x] w fun e w'=> e= .returned (.bool (T (zb x)))/\Below w.heap.size w w'
theorem zb4 (m:Option Nat) (x:ByteArray) (w:World):Calls Tryz.prog 222 #[.agg #[.map m], .string x] w fun e w'=> e= .returned (.bool false)/\Below w.heap.size w w':=by
 go_enter Tryz.func222,Tryz.ntmps222;go_wp2;go_ret;exact ⟨rfl,ZQ w _⟩
def bnT (f:Frame) (T:List UInt8->Bool) (k:List UInt8):Bool:=(f k).isSome || T k
theorem zkQ {av:Value} {T:List UInt8->Bool} {good:World->Prop} (h:Bnd av T good) (hgood:∀W W',good W->Below W.heap.size W W'->good W') (N:Nat) (m:Option Nat) (fv:Value) (f:Frame) (w:World) (x:ByteArray) (hx:x.size<=maxLen) (hg:good w) (hf:FrAt w N m fv f):
  Calls Tryz.prog 227 #[.agg #[av,fv], .string x] w fun e w'=> e= .returned (.bool (bnT f T (zb x)))/\Below w.heap.size w w':=by
 obtain ⟨ty,cs,g,rcv,rfl,hm,hc,hcall⟩:=h;obtain ⟨W0,hW0⟩:∃W0,W0=w.alloc (.cells #[.iface ty (.agg cs),fv] 123):=⟨_,rfl⟩;have hb0:Below w.heap.size w W0:=by rw [hW0];exact ZQ w _
 have hz:W0.heap.size=w.heap.size + 1:=by rw [hW0];simp
 obtain ⟨hlk,_⟩:=(hf.later hb0).look hx;have hcl:=hcall W0 x hx (hgood _ _ hg hb0);have HW:=ZH hW0;rw [hW0] at hlk;clear hW0 hcall hg hf;obtain ⟨BT,hBT⟩:∃b,b=bnT f T (zb x):=⟨_,rfl⟩;rw [<-hBT];unfold bnT at hBT;have HB:=ZH hBT;clear hBT;cases hfx:f (zb x) with
 | some n=>
  rw [hfx] at hlk;simp only [Option.getD_some,Option.isSome_some] at hlk;clear hcl;go_enter Tryz.func227,Tryz.ntmps227;go_wp2;go_ret;exact ⟨by rw [HB.out,hfx];rfl,by rw [<-HW.out];exact hb0⟩
 | none=>
  rw [hfx] at hlk;simp only [Option.getD_none,Option.isSome_none] at hlk;go_enter Tryz.func227,Tryz.ntmps227;go_wp2_with (rw [<-HW.out];refine hcl.mono ?_;clear hcl;rintro e w1 ⟨rfl,hb1⟩);go_ret;exact ⟨by rw [HB.out,hfx];rfl,hb0.trans (hb1.mono (by omega))⟩
theorem zlX {B:Nat} {u:World} {m:Option Nat}:∀{b:Base} {v:Value},zeg B u m b v->Bnd v (fun _=> false) (fun _=> True)
 | .outside,_,rfl=> ⟨116,#[.map m],222, .agg #[.map m],rfl,fun W=> by kernel_rfl,enters_of Tryz.func222 (by kernel_rfl) rfl,fun w x _ _=> zb4 m x w⟩
 | .anew,_,rfl=> ⟨134,#[.map m],222, .agg #[.map m],rfl,fun W=> by kernel_rfl,enters_of Tryz.func222 (by kernel_rfl) rfl,fun w x _ _=> zb4 m x w⟩
 | .putting y e,_,⟨_,hp,o,n,t,a,k,c,rfl,hat⟩=> ⟨118,#[.map m, .string y, .int .i64 o, .int .i64 n, .string t, .slice a k c],222, .agg #[.map m],rfl,fun W=> by kernel_rfl,enters_of Tryz.func222 (by kernel_rfl) rfl,fun w x _ _=> zb4 m x w⟩
theorem zec {av fv av' fv':Value} (he:Value.iface 123 (.agg #[av,fv])= .iface 123 (.agg #[av',fv'])):av=av'/\fv=fv':=by
 simp only [Value.iface.injEq,Value.agg.injEq,true_and] at he;have he': [av,fv]= [av',fv']:=congrArg Array.toList he;simp only [List.cons.injEq,and_true] at he';exact he'
theorem zeM {B N:Nat} {u:World} {m:Option Nat} {b:Base} (hB:B<=N) (hm:∀r,m=some r->B<=r):∀(fs:List Frame) (w:World) (v:Value),qQ B u N m b fs w v->Bnd v (fun k=> fs.any (fun f=> (f k).isSome)) (Good B u N m b fs v)
 | [],w,v,h=> by
  obtain ⟨ty,cs,g,rcv,h1,h2,h3,h4⟩:=zlX h;exact ⟨ty,cs,g,rcv,h1,h2,h3,fun w x hx hg=> h4 w x hx trivial⟩
 | f::fs,w,v,h=> by
  obtain ⟨av,fv,rfl,h2,h3⟩:=h;have ih:=zeM hB hm fs w av h3;refine ⟨123,#[av,fv],227, .agg #[av,fv],rfl,fun W=> by kernel_rfl,enters_of Tryz.func227 (by kernel_rfl) rfl,fun w x hx hg=> ?_⟩;obtain ⟨av',fv',he,hf',ha'⟩:=hg.at_;obtain ⟨rfl,rfl⟩:=zec he;exact zkQ ih (fun W W' g hb=> (Good.stays hB hm).below g hb) N m fv f w x hx ⟨hg.kept,hg.room,ha'⟩ hf'
theorem zjX {B N:Nat} {u:World} {m:Option Nat} {b:Base} (hB:B<=N) (hm:∀r,m=some r->B<=r) (f:Frame) (fs:List Frame) (av fv:Value) (w:World) (x:ByteArray) (hx:x.size<=maxLen) (hg:Good B u N m b (f::fs) (.iface 123 (.agg #[av,fv])) w):
  Calls Tryz.prog 227 #[.agg #[av,fv], .string x] w fun e w'=> e= .returned (.bool ((f::fs).any (fun f=> (f (zb x)).isSome)))/\Below w.heap.size w w':=by
 obtain ⟨av',fv',he,hf',ha'⟩:=hg.at_;obtain ⟨rfl,rfl⟩:=zec he;exact zkQ (zeM hB hm fs w av ha') (fun W W' g hb=> (Good.stays hB hm).below g hb) N m fv f w x hx ⟨hg.kept,hg.room,ha'⟩ hf'
theorem zhR (m:Option Nat) (pv av fv:Value) (ty:TypeId) (pc:Array Value) (hp:pv= .iface ty (.agg pc)) (w:World):Calls Tryz.prog 224 #[.agg #[.map m],pv, .agg #[av,fv]] w fun e w'=> e= .returned (.slice none 0 0)/\Below w.heap.size w w':=by
 subst hp;go_enter Tryz.func224,Tryz.ntmps224;go_wp2;go_ret;exact ⟨rfl,(ZQ w _).alloc (by simp) _⟩
theorem zaj (B:Nat) (u:World) (p:Part) (v:Value) (hs:p.small) (hb:zca p) (h:zY B u v p):
  ∃(g:Nat) (cs:List Value) (ty:TypeId),v= .iface ty (.agg cs.toArray)/\(∀W,(method 347 ty (.agg cs.toArray) "cabotage/term.binds").run Tryz.prog W= .ok (g, .agg cs.toArray) W)/\(∀args w,(callFunc g args).run Tryz.prog w= .ok (.enter g args) w)/\
   (∀w:World,zh B u w->B<=w.heap.size->Calls Tryz.prog g #[.agg cs.toArray] w fun e w'=> ∃r,e= .returned r/\zx w'.heap.size w' r (zR p)/\Below w.heap.size w w'):=by
 obtain ⟨g1,g2,g3,cs,ty,rfl,hg,_,hbinds,_⟩:=zb8 B u p v hs hb h;refine ⟨g2,cs,ty,rfl,?_,?_,hbinds⟩
 ·rcases hg with ⟨rfl,rfl,rfl,rfl⟩ | ⟨rfl,rfl,rfl,rfl⟩ | ⟨rfl,rfl,rfl,rfl⟩ <;> exact fun W=> by kernel_rfl
 ·rcases hg with ⟨rfl,rfl,rfl,rfl⟩ | ⟨rfl,rfl,rfl,rfl⟩ | ⟨rfl,rfl,rfl,rfl⟩
  ·exact enters_of Tryz.func215 (by kernel_rfl) rfl
  ·exact enters_of Tryz.func218 (by kernel_rfl) rfl
  ·exact enters_of Tryz.func229 (by kernel_rfl) rfl
theorem zl5 (B:Nat) (u:World) (p:Part) (pv:Value) (hs:p.small) (hb:zca p) (hp:zY B u pv p) (m:Option Nat) (av fv:Value) (w:World) (hu:zh B u w) (hB:B<=w.heap.size):
  Calls Tryz.prog 228 #[.agg #[.map m],pv, .agg #[av,fv]] w fun e w'=> ∃r,e= .returned r/\zx w'.heap.size w' r (zR p)/\Below w.heap.size w w':=by
 obtain ⟨g,cs,ty,rfl,hm,hc,hbs⟩:=zaj B u p pv hs hb hp;have hb0:Below w.heap.size w ((w.alloc (.cells #[.map m] 134)).alloc (.cells #[av,fv] 123)):=(ZQ w _).alloc (by simp) _;have hbc:=hbs _ (hu.trans ((Below.keptC hb0).mono hB)) (by simp;omega);clear hbs;go_enter Tryz.func228,Tryz.ntmps228;go_wp2_with (refine hbc.mono ?_;clear hbc;rintro e w1 ⟨r,rfl,hs1,hb1⟩);go_ret;exact ⟨_,rfl,hs1,hb0.trans (hb1.mono (by simp;omega))⟩
theorem zhF {B N:Nat} {u:World} {m:Option Nat} {b:Base} (hBN:B<=N) (hm:∀r,m=some r->B<=r) (f:Frame) (fs:List Frame) (av fv:Value)
  (p:Part) (pv:Value) (hps:p.size<=60) (hsm:p.allSmall) (hbd:p.allBind) (hp:zY B u pv p)
  (y:ByteArray) (hy:y.size<=maxLen) (o n:Int) (t:ByteArray) (a:Option Addr) (k c:Nat) (e:Exp) (hat:zy B u [.int .i64 o, .int .i64 n, .string t, .slice a k c] e) (he:zjt e)
  (w:World) (hg:Good B u N m b (f::fs) (.iface 123 (.agg #[av,fv])) w):
  Calls Tryz.prog 226 #[.agg #[.map m, .string y, .int .i64 o, .int .i64 n, .string t, .slice a k c],pv, .agg #[av,fv]] w fun e' w'=> ∃r,e'= .returned r/\
   zx w'.heap.size w' r (Base.renames (.putting y e) ⟨b,f::fs⟩ p)/\Below w.heap.size w w':=by
 obtain ⟨W0,hW0⟩:∃W0,W0=((w.alloc (.cells #[.map m, .string y, .int .i64 o, .int .i64 n, .string t, .slice a k c] 118)).alloc (.cells #[av,fv] 123)):=⟨_,rfl⟩;have hb0:Below w.heap.size w W0:=by rw [hW0];exact (ZQ w _).alloc (by simp) _
 have hz:W0.heap.size=w.heap.size + 2:=by rw [hW0];simp
 have k3:W0.heap[w.heap.size]?=some (.cells #[.map m, .string y, .int .i64 o, .int .i64 n, .string t, .slice a k c] 118):=by
  rw [hW0,ZO _ _ _ (by simp)];exact ZN w _
 have k4:W0.heap[w.heap.size + 1]?=some (.cells #[av,fv] 123):=by
  rw [hW0];have:=ZN (w.alloc (.cells #[.map m, .string y, .int .i64 o, .int .i64 n, .string t, .slice a k c] 118)) (.cells #[av,fv] 123);rwa [World.size_alloc] at this
 have HW:=ZH hW0;have hstay:=Good.stays (b:=b) (fs:=f::fs) (v:= .iface 123 (.agg #[av,fv])) (u:=u) hBN hm;obtain ⟨G,hG⟩:∃G:World->Prop,G=fun W=> Below W0.heap.size W0 W:=⟨_,rfl⟩;have g0:G W0.drew:=by rw [hG];exact (ZF _ _).drew
 have hread:∀W,G W->W.cell? ⟨w.heap.size,1,none⟩=some (.string y)/\W.cell? ⟨w.heap.size,2,none⟩=some (.int .i64 o)/\W.cell? ⟨w.heap.size,3,none⟩=some (.int .i64 n)/\W.cell? ⟨w.heap.size,4,none⟩=some (.string t)/\W.cell? ⟨w.heap.size,5,none⟩=some (.slice a k c)/\
   W.cell? ⟨w.heap.size + 1,0,none⟩=some av/\W.cell? ⟨w.heap.size + 1,1,none⟩=some fv:=fun W h=> by
  rw [hG] at h;have e1:=(h.block w.heap.size (by omega)).trans k3;have e2:=(h.block (w.heap.size + 1) (by omega)).trans k4;exact ⟨by simp [World.cell?,e1],by simp [World.cell?,e1],by simp [World.cell?,e1],by simp [World.cell?,e1],by simp [World.cell?,e1],by simp [World.cell?,e2],by simp [World.cell?,e2]⟩
 obtain ⟨BD,hBD⟩:∃BD,BD=(f::fs).any (fun f=> (f (zb y)).isSome):=⟨_,rfl⟩
 have hbn:∀W,G W->Calls Tryz.prog 227 #[.agg #[av,fv], .string y] W fun e' w'=> e'= .returned (.bool BD)/\G w':=fun W h=> by
  rw [hG] at h ⊢;rw [hBD];exact (zjX hBN hm f fs av fv W y hy (hstay.below hg (hb0.trans (h.mono (by omega))))).mono fun _ w' ⟨h1,h2⟩=> ⟨h1,h.trans (h2.mono h.size)⟩
 have hfr:∀W,G W->Calls Tryz.prog 75 #[pv] W fun e' w'=> ∃b2,e'= .returned (.map (some b2))/\(Instr.lookup 70 (.map (some b2)) (.string y) false).run Tryz.prog w'= .ok (.bool (qE 60 p (zb y))) w'/\G w':=fun W h=> by
  rw [hG] at h ⊢;have hbW:=hb0.trans (h.mono (by omega));refine (zcs B u 60 p hps (by omega) hsm hbd pv W hp (hstay.below hg hbW).kept (hstay.below hg hbW).room).mono ?_;rintro e' w' ⟨b2,rfl,_,h2,h3⟩;exact ⟨b2,rfl,h2.look hy,h.trans (h3.mono h.size)⟩
 have hren:Base.renames (.putting y e) ⟨b,f::fs⟩ p=if BD || !qE 60 p (zb y) then [] else (zR p).filter (fun n=> qE 60 (.exp e) (zb n)):=by rw [hBD];rfl
 rw [hren];obtain ⟨FP,hFP⟩:∃FP,FP=qE 60 p (zb y):=⟨_,rfl⟩;rw [<-hFP] at hfr ⊢;have hout:∀W,G W->Below w.heap.size w W:=fun W h=> by rw [hG] at h;exact hb0.trans (h.mono (by omega))
 obtain ⟨r1,r2,r3,r4,r5,r6,r7⟩:=hread _ g0;have HG:=ZH hG;have HZ:=ZH hz;have HK:=ZH (And.intro k3 k4);clear hG hW0 hBD hFP hren hz k3 k4;cases BD with
 | true=>
  obtain ⟨ty,pc,rfl⟩:=xa hp;go_enter Tryz.func226,Tryz.ntmps226;go_wp2;rw [<-HW.out];first
  | go_region_law (go_simp;go_wp2_with (first
   | (go_at_call 227;refine (hbn _ (by assumption)).mono ?_;rintro e' w2 ⟨rfl,g2⟩;obtain ⟨s1,s2,s3,s4,s5,s6,s7⟩:=hread _ g2)))
  | skip
  all_goals
   have hbw:=hout _ g2;go_wp2;go_ret;exact ⟨_,rfl,zx.nil _ _,hbw⟩
 | false=>
  cases FP with
  | false=>
   obtain ⟨ty,pc,rfl⟩:=xa hp;go_enter Tryz.func226,Tryz.ntmps226;go_wp2;rw [<-HW.out];first
   | go_region_held3 (fun w'=> w'.cell? ⟨w.heap.size,1,none⟩=some (.string y)/\w'.cell? ⟨w.heap.size + 1,0,none⟩=some av/\w'.cell? ⟨w.heap.size + 1,1,none⟩=some fv) (go_keep)
    (first
    | (go_at_call 227;refine (hbn _ (by assumption)).mono ?_;rintro e' w2 ⟨rfl,g2⟩;obtain ⟨s1,s2,s3,s4,s5,s6,s7⟩:=hread _ g2)
    | (go_at_call 75;refine (hfr _ (by assumption)).mono ?_;rintro e' w4 ⟨b2,rfl,hlk,g4⟩;obtain ⟨z1,z2,z3,z4,z5,z6,z7⟩:=hread _ g4))
   | skip
   all_goals
    have hbw:=hout _ g4;go_wp2;go_ret;exact ⟨_,rfl,zx.nil _ _,hbw⟩
  | true=>
   rw [show (if (false || !true)=true then [] else (zR p).filter (fun n=> qE 60 (.exp e) (zb n)))=(zR p).filter (fun n=> qE 60 (.exp e) (zb n)) from rfl];obtain ⟨i0,hi,hz0,hz1,hz2⟩:=info_parts zaK
   have hfe:∀W,G W->Calls Tryz.prog 75 #[.iface 88 (.agg #[.int .i64 o, .int .i64 n, .string t, .slice a k c])] W fun e' w'=> ∃b3 N3,e'= .returned (.map (some b3))/\SetF w' b3 N3 (qE 60 (.exp e))/\G w':=fun W h=> by
    have hbW:=hout W h;have hgW:=hstay.below hg hbW;rw [HG.out] at h ⊢;refine (zcs B u 60 (.exp e) he.1 (by omega) he.2.1 he.2.2.1 _ W ⟨_,rfl,hat⟩ hgW.kept hgW.room).mono ?_;rintro e' w' ⟨b2,rfl,_,h2,h3⟩;exact ⟨b2,_,rfl,h2,h.trans (h3.mono h.size)⟩
   obtain ⟨g,pc,ty,rfl,hmb,hcb,hbs⟩:=zaj B u p pv (hsm p (by rw [zv];simp)) (hbd p (by rw [zv];simp)) hp
   have hbn2:∀W,G W->Calls Tryz.prog g #[.agg pc.toArray] W fun e' w'=> ∃a3 c3,e'= .returned (.slice a3 (zR p).length c3)/\zx w'.heap.size w' (.slice a3 (zR p).length c3) (zR p)/\Below W.heap.size W w'/\G w':=fun W h=> by
    have hgW:=hstay.below hg (hout W h);refine (hbs W hgW.kept hgW.room).mono ?_;rintro e' w' ⟨r,rfl,h2,h3⟩;obtain ⟨a3,c3,rfl,_⟩:=id h2;rw [HG.out] at h ⊢;exact ⟨_,_,rfl,h2,h3,h.trans (h3.mono h.size)⟩
   have hL:(zR p).length<=150000:=zfV (hbd p (by rw [zv];simp));obtain ⟨L,hLd⟩:∃L,L=zR p:=⟨_,rfl⟩;obtain ⟨PF,hPF⟩:∃PF,PF=qE 60 (.exp e):=⟨_,rfl⟩;rw [<-hLd,<-hPF];rw [<-hLd] at hbn2 hL;rw [<-hPF] at hfe;have HLD:=ZH hLd;have HPF:=ZH hPF;clear hLd hPF hbs;go_enter Tryz.func226,Tryz.ntmps226;go_wp2;rw [<-HW.out];first
   | go_region_held3 (fun w'=> w'.cell? ⟨w.heap.size,1,none⟩=some (.string y)/\w'.cell? ⟨w.heap.size + 1,0,none⟩=some av/\w'.cell? ⟨w.heap.size + 1,1,none⟩=some fv) (go_keep)
    (first
    | (go_at_call 227;refine (hbn _ (by assumption)).mono ?_;rintro e' w2 ⟨rfl,g2⟩;obtain ⟨s1,s2,s3,s4,s5,s6,s7⟩:=hread _ g2)
    | (go_at_call 75;refine (hfr _ (by assumption)).mono ?_;rintro e' w4 ⟨b2,rfl,hlk,g4⟩;obtain ⟨z1,z2,z3,z4,z5,z6,z7⟩:=hread _ g4))
   | skip
   clear hbn hfr hread
   go_wp2_with (first
    | (go_at_call 75;refine (hfe _ (by assumption)).mono ?_;clear hfe;rintro e' w5 ⟨b3,N3,rfl,hset,g5⟩)
    | (refine (hbn2 _ (by assumption)).mono ?_;clear hbn2;rintro e' w6 ⟨a3,c3,rfl,hs6,hb6,g6⟩))
   have hset6:=hset.later hb6;have hbw6:=hout _ g6;obtain ⟨A,hA⟩:∃A,A=w6.heap.size:=⟨_,rfl⟩;have HA:=ZH hA;obtain ⟨_,_,hse,_,hzz,_,hp6⟩:=hs6
   injection hse with q1 q2 q3
   subst q1;subst q3;clear g0 g4 g5 g6 hset hb6 hlk
   go_loopw [7,30] (fun v i wr=> ∃(k:Nat) (xs:List ByteArray),k<=L.length/\i= .int .i64 k/\xs=(L.take k).filter (fun n=> PF (zb n))/\xs.length<=k/\wr.ownsRow A 9 1 v xs.length (zn xs)/\(∀s∈xs,s.size<=maxLen)/\Below w6.heap.size w6 wr) (fun _ i _=> L.length - (intOf i).toNat)
   case atStart=> exact ⟨0, [],by omega,rfl,by simp,by simp,ZR _ _ _ _,by simp,ZF _ _⟩
   case round=>
    obtain ⟨k,xs,hk,rfl,hxs,hxl,hown,hxz,hb⟩:=hrel;have HX:=ZH hxs;by_cases hlt:k < L.length
    ·rcases hp6 with h0 | ⟨bb,off,rfl,hbB,hc⟩
     ·subst h0;simp at hlt
     have hwr:=hb.size;have ck:=(hb.cell (p:=⟨bb,off + k,none⟩) hbB).trans (hc k hlt);have hxk:=hzz _ (ZM hlt)
     have hft:(L.take (k + 1)).filter (fun n=> PF (zb n))=xs ++ if PF (zb L[k]) then [L[k]] else []:=by
      rw [ZT hlt,List.filter_append,hxs]
      congr 1
      simp only [List.filter_cons,List.filter_nil]
     obtain ⟨x,hx⟩:∃x,x=L[k]:=⟨_,rfl⟩;rw [<-hx] at ck hxk hft;have HFT:=ZH hft;have hlk:=(hset6.later hb).look hxk;clear hft hx hc hxs hzz;cases hPx:PF (zb x) with
     | false=>
      rw [hPx] at hlk;go_wp2;go_roundw
      case rel=> exact ⟨k + 1,xs,by omega,by go_num,by rw [HFT.out,hPx];simp,by omega,hown,hxz,hb⟩
      case measure=> simp [intOf];omega
     | true=>
      rw [hPx] at hlk;have hA':=HA.out;have hAl:Below wr.heap.size wr (wr.alloc (.cells #[.string x] 9)):=ZQ wr _;have hoA:=zt hown (zj hAl) (fun g _ e=> by cases e)
      obtain ⟨v',w',hr,h1,h2,_,_⟩:=run_append_own_at (P:=Tryz.prog) (wr.alloc (.cells #[.string x] 9)) A 22 22 9 i0 (.string ⟨#[]⟩) 1 16 Tryz.underlying22 hi hz0 hz1 hz2 rfl (by decide) _ _ _ hoA
       ⟨wr.heap.size,0,none⟩ 1 1 [.string x] rfl (by
        intro j u hj;have e:(⟨wr.heap.size,0,none⟩:Addr).add j=⟨wr.heap.size,j,none⟩:=by unfold Addr.add;by_cases h:j=0 <;> simp [h]
        rw [e,ZA _ _ _ _ rfl];simpa using hj) (by simp [Value.oneCell']) (by unfold maxLen;omega) (by omega) (by simp;omega)
      have hlo:=hown.lt;have hbw:Below w6.heap.size w6 w':=(hb.trans (hAl.mono hwr)).grown h2 (by simp;omega) (fun r e=> by have:=(hlo r e).1;omega);obtain ⟨_,⟨_,h0⟩ | ⟨gg,cp,cur,hvf,_⟩⟩:=id h1
      ·omega
      subst hvf
      have H1:Hid (w'.ownsRow A 9 1 (.slice (some ⟨gg,0,none⟩) (xs.length + 1) cp) (xs ++ [x]).length (zn (xs ++ [x]))):=ZH (by
       have:zn (xs ++ [x])=zn xs ++ [.string x]:=by simp [zn]
       rw [this,List.length_append];exact h1)
      have H2:Hid (∀s∈xs ++ [x],s.size<=maxLen):=ZH (by
       intro s hs;rcases List.mem_append.1 hs with h | h
       ·exact hxz s h
       ·rw [List.mem_singleton.1 h];exact hxk)
      have H3:=ZH hbw;clear h1 h2 hoA hbw hxz hown hlo hA';go_wp2_with (show wpList _ _ _ (⟨some 40,_,_,_,_,_⟩::_) _ _;refine qe rfl (.tmp 37) (.tmp 39) 22 22 rfl rfl rfl hr ?_);go_roundw
      case rel=> exact ⟨k + 1,xs ++ [x],by omega,by go_num,by rw [HFT.out,hPx];simp,by simp;omega,H1.out,H2.out,H3.out⟩
      case measure=> simp [intOf];omega
    ·obtain rfl:k=L.length:=by omega
     rw [List.take_length] at hxs;have hsl:=qM hown hxz;rw [hxs] at hsl;have HSL:=ZH hsl;have hbo:=hbw6.trans (hb.mono hbw6.size);obtain ⟨aa,cc,hvv,_⟩:=zJ (by omega) hown;subst hvv;clear hsl hown;go_wp2;go_ret;exact ⟨_,rfl,by rw [<-hxs];rw [<-hxs] at HSL;exact HSL.out,hbo⟩
def znj (B:Nat) (u:World) (m:Option Nat) (b:Base) (g:Nat) (rcv:Value):Prop:=
 (g=224/\rcv= .agg #[.map m]/\b= .outside)∨(g=228/\rcv= .agg #[.map m]/\b= .anew)∨
 (g=226/\∃y e o n t a k c,b= .putting y e/\y.size<=maxLen/\zjt e/\zy B u [.int .i64 o, .int .i64 n, .string t, .slice a k c] e/\rcv= .agg #[.map m, .string y, .int .i64 o, .int .i64 n, .string t, .slice a k c])
set_option maxRecDepth 100000 in
theorem zeK {B N:Nat} {u:World} {m:Option Nat} {b:Base}:∀(fs:List Frame) (n:Nat) (w:World) (ty:TypeId) (cs:Array Value),fs.length < n->qQ B u N m b fs w (.iface ty (.agg cs))->
  ∃g rcv,(∀W,(method n ty (.agg cs) "cabotage/term.renames").run Tryz.prog W= .ok (g,rcv) W)/\znj B u m b g rcv
 | [],n + 1,w,ty,cs,_,h=> by
  cases b with
  | outside=>
   obtain ⟨rfl,rfl⟩:ty=116/\cs=#[.map m]:=by have h':Value.iface ty (.agg cs)= .iface 116 (.agg #[.map m]):=h;injection h' with h1 h2;injection h2 with h2;exact ⟨h1,h2⟩
   exact ⟨224, .agg #[.map m],fun W=> by kernel_rfl, .inl ⟨rfl,rfl,rfl⟩⟩
  | anew=>
   obtain ⟨rfl,rfl⟩:ty=134/\cs=#[.map m]:=by have h':Value.iface ty (.agg cs)= .iface 134 (.agg #[.map m]):=h;injection h' with h1 h2;injection h2 with h2;exact ⟨h1,h2⟩
   exact ⟨228, .agg #[.map m],fun W=> by kernel_rfl, .inr (.inl ⟨rfl,rfl,rfl⟩)⟩
  | putting y e=>
   obtain ⟨hy,hp,o,k,t,a,l,c,he,hat⟩:=h
   injection he with h1 h2;injection h2 with h2
   subst h1;subst h2;exact ⟨226,_,fun W=> by kernel_rfl, .inr (.inr ⟨rfl,y,e,o,k,t,a,l,c,rfl,hy,hp,hat,rfl⟩)⟩
 | f::fs,n + 1,w,ty,cs,hn,h=> by
  obtain ⟨av,fv,he,_,ha⟩:=h
  injection he with h1 h2;injection h2 with h2
  subst h1;subst h2;obtain ⟨ty',cs',rfl⟩:=zbx ha;obtain ⟨g,rcv,h1,h2⟩:=zeK fs n w ty' cs' (by simp at hn;omega) ha;exact ⟨g,rcv,fun W=> by rw [ziU];exact h1 W,h2⟩
theorem zm3 {B N:Nat} {u:World} {m:Option Nat} {b:Base} (hBN:B<=N) (hm:∀r,m=some r->B<=r) (f:Frame) (fs:List Frame) (hfs:fs.length < 340) (ty:TypeId) (cs:Array Value) (fv:Value)
  (p:Part) (pv:Value) (hps:p.size<=60) (hsm:p.allSmall) (hbd:p.allBind) (hp:zY B u pv p) (w:World) (ha:qQ B u N m b fs w (.iface ty (.agg cs))):
  ∃g rcv,(∀W,(method 347 ty (.agg cs) "cabotage/term.renames").run Tryz.prog W= .ok (g,rcv) W)/\(∀args W,(callFunc g args).run Tryz.prog W= .ok (.enter g args) W)/\
   ∀W,Good B u N m b (f::fs) (.iface 123 (.agg #[.iface ty (.agg cs),fv])) W->Calls Tryz.prog g #[rcv,pv, .agg #[.iface ty (.agg cs),fv]] W fun e w'=> ∃r,e= .returned r/\zx w'.heap.size w' r (b.renames ⟨b,f::fs⟩ p)/\Below W.heap.size W w':=by
 obtain ⟨g,rcv,h1,h2⟩:=zeK fs 347 w ty cs (by omega) ha;refine ⟨g,rcv,h1,?_,?_⟩
 ·rcases h2 with ⟨rfl,_⟩ | ⟨rfl,_⟩ | ⟨rfl,_⟩
  ·exact enters_of Tryz.func224 (by kernel_rfl) rfl
  ·exact enters_of Tryz.func228 (by kernel_rfl) rfl
  ·exact enters_of Tryz.func226 (by kernel_rfl) rfl
 ·intro W hg
  have hs0:=hsm p (by rw [zv];simp);have hb0:=hbd p (by rw [zv];simp);rcases h2 with ⟨rfl,rfl,rfl⟩ | ⟨rfl,rfl,rfl⟩ | ⟨rfl,y,e,o,n,t,a,k,c,rfl,hy,hpo,hat,rfl⟩
  ·obtain ⟨_,pc,pt,rfl,_⟩:=zaj B u p pv hs0 hb0 hp
   refine (zhR m _ _ fv pt pc.toArray rfl W).mono ?_;rintro e' w' ⟨rfl,h⟩;exact ⟨_,rfl,zx.nil _ _,h⟩
  ·exact zl5 B u p pv hs0 hb0 hp m _ fv W hg.kept hg.room
  ·exact zhF hBN hm f fs _ fv p pv hps hsm hbd hp y hy o n t a k c e hat hpo W hg
theorem zde (U:Used):∀n i,yW U n i<=i + n
 | 0,i=> by simp [yW]
 | n + 1,i=> by
  unfold yW
  split
  ·omega
  ·have:=zde U n (i + 1);omega
theorem zhg (U:Used):(mkB (choose U)).size<=maxLen:=by
 have h1:=zde U 5000 0;have h2:=zfE (yW U 5000 0);have h3:(mkB (choose U)).size=(choose U).length:=by simp [mkB,ByteArray.size]
 rw [h3];unfold maxLen;unfold choose;omega
theorem OwnF.cell_ne {w:World} {b n:Nat} {f:Frame} (h:OwnF w b n f) {c o:Nat} {v:Value} (hc:w.cell? ⟨c,o,none⟩=some v):c≠b:=by
 obtain ⟨D,⟨es,clock,hb,_⟩,_⟩:=h;intro e;subst e;simp [World.cell?,hb] at hc
theorem yr.turnedF {w0 w w':World} {b n:Nat} {f:Frame} (h:yr w0 w) (hs:OwnF w b n f) (g:w.grownBy w' (some b)):yr w0 w':=by
 refine ⟨Nat.le_trans h.1 g.size,fun c o v hc=> ?_⟩;have h1:=h.2 c o v hc;have h2:=hs.cell_ne h1;exact (ZB (w:=w) (g.block c (zD h1) (fun e=> h2 (ZJ e)))).trans h1
def jE (w:World) (m:Option Nat) (n:Nat) (U:Used):Prop:=∀b,m=some b->SetF w b n U
theorem jE.kept {w w':World} {m row:Option Nat} {n:Nat} {U:Used} (h:jE w m n U) (g:w.grownBy w' row) (hne:∀r,row=some r->m≠some r):jE w' m n U:=fun b hb=>
 (h b hb).kept g (fun e=> hne b e.symm hb)
theorem jE.noCells {w:World} {m:Option Nat} {n:Nat} {U:Used} (h:jE w m n U):xD m w:=fun b hb=> by
 refine ⟨(h b hb).lt,fun o=> ?_⟩;cases hc:w.cell? ⟨b,o,none⟩ with
 | none=> rfl
 | some v=> exact absurd rfl ((h b hb).cell_ne hc)
theorem ze1 {A S:Type} (F:S->A->S) (l:List A) (s:S) (k:Nat) (h:k < l.length):(l.take (k + 1)).foldl F s=F ((l.take k).foldl F s) l[k]:=by
 rw [ZT h,List.foldl_append];rfl
theorem Tryz.results137:Tryz.f137.results=#[.cell 4 123]:=by kernel_rfl
theorem FrAt.map {w:World} {N:Nat} {m:Option Nat} {v:Value} {f:Frame} (h:FrAt w N m v f):∃x,v= .map x:=by
 rcases h with ⟨rfl,_⟩ | ⟨b,rfl,_⟩
 ·exact ⟨_,rfl⟩
 ·exact ⟨_,rfl⟩
theorem Good.values {B N:Nat} {u:World} {m:Option Nat} {b:Base} {f:Frame} {fs:List Frame} {av fv:Value} {w:World} (h:Good B u N m b (f::fs) (.iface 123 (.agg #[av,fv])) w):∃ty cs x,av= .iface ty (.agg cs)/\fv= .map x/\FrAt w N m fv f/\qQ B u N m b fs w av:=by
 obtain ⟨av',fv',he,hf',ha'⟩:=h.at_;obtain ⟨rfl,rfl⟩:=zec he;obtain ⟨ty,cs,h1⟩:=zbx ha';obtain ⟨x,h2⟩:=hf'.map;exact ⟨ty,cs,x,h1,h2,hf',ha'⟩
theorem zhP {B N:Nat} {u:World} {m:Option Nat} {b:Base} (hBN:B<=N) (hm:∀r,m=some r->B<=r) (f:Frame) (fs:List Frame) (av fv:Value)
  (p:Part) (pv:Value) (hsm:p.allSmall) (hbd:p.allBind) (hp:zY B u pv p) (w:World) (hg:Good B u N m b (f::fs) (.iface 123 (.agg #[av,fv])) w) (hnone:zR p= []):
  Calls Tryz.prog 137 #[.agg #[av,fv],pv] w fun e w'=> e= .returned (.agg #[av,fv])/\Below w.heap.size w w':=by
 obtain ⟨aty,acs,fx,rfl,rfl,hfr,har⟩:=hg.values;obtain ⟨g,pc,ty,rfl,hmb,hcb,hbs⟩:=zaj B u p pv (hsm p (by rw [zv];simp)) (hbd p (by rw [zv];simp)) hp;obtain ⟨W0,hW0⟩:∃W0,W0=((w.alloc (.cells #[.iface aty (.agg acs), .map fx] 123)).alloc (.cells #[.nilIface, .map none] 123)):=⟨_,rfl⟩;have hb0:Below w.heap.size w W0:=by rw [hW0];exact (ZQ w _).alloc (by simp) _
 have hz:W0.heap.size=w.heap.size + 2:=by rw [hW0];simp
 have k3:W0.heap[w.heap.size]?=some (.cells #[.iface aty (.agg acs), .map fx] 123):=by
  rw [hW0,ZO _ _ _ (by simp)];exact ZN w _
 have k4:W0.heap[w.heap.size + 1]?=some (.cells #[.nilIface, .map none] 123):=by
  rw [hW0];have:=ZN (w.alloc (.cells #[.iface aty (.agg acs), .map fx] 123)) (.cells #[.nilIface, .map none] 123);rwa [World.size_alloc] at this
 have hstay:=Good.stays (b:=b) (fs:=f::fs) (v:= .iface 123 (.agg #[.iface aty (.agg acs), .map fx])) (u:=u) hBN hm;have hg0:=hstay.below hg hb0;have hbc:=hbs W0 hg0.kept hg0.room;have HW:=ZH hW0;rw [hnone] at hbc;clear hW0 hbs;go_enter Tryz.func137,Tryz.ntmps137;go_wp2_with (rw [<-HW.out];refine hbc.mono ?_;clear hbc;rintro e w1 ⟨r,rfl,⟨ra,rc,rfl,_⟩,hb1⟩;have q3:=(hb1.block _ (by omega)).trans k3;have q4:=(hb1.block _ (by omega)).trans k4;have c0:w1.cell? ⟨w.heap.size,0,none⟩=some (.iface aty (.agg acs)):=(by simp [World.cell?,q3]);have c1:w1.cell? ⟨w.heap.size,1,none⟩=some (.map fx):=(by simp [World.cell?,q3]);have d0:w1.cell? ⟨w.heap.size + 1,0,none⟩=some .nilIface:=(by simp [World.cell?,q4]);have d1:w1.cell? ⟨w.heap.size + 1,1,none⟩=some (.map none):=(by simp [World.cell?,q4]);have df:∀o,w1.frozen? ⟨w.heap.size + 1,o,none⟩=false:=(fun o=> by simp [World.frozen?,q4]));simp [bodyPost,results,Tryz.results137,go_sem,d0,d1];exact ((hb0.trans (hb1.mono (by omega))).setCell (show w.heap.size<=(⟨w.heap.size + 1,0,none⟩:Addr).block from Nat.le_succ _) _).setCell (show w.heap.size<=(⟨w.heap.size + 1,1,none⟩:Addr).block from Nat.le_succ _) _
end
end Go.Proofs.YtjmlaeofjjhfmaaGreat
