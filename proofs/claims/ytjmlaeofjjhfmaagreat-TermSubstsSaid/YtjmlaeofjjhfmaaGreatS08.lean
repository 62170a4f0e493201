/- Lemmas. -/
import Derived.Test.YtjmlaeofjjhfmaaGreatS04
import Derived.Test.YtjmlaeofjjhfmaaGreatS06
import Derived.Test.YtjmlaeofjjhfmaaGreatS07
set_option linter.unusedVariables false
set_option linter.unusedSimpArgs false
set_option maxRecDepth 10000
set_option maxHeartbeats 16000000
namespace Go.Proofs.YtjmlaeofjjhfmaaGreat
section
open Go.RowKit Go.Shelf
attribute [local go_sem] Oper.semAt_some
theorem zj7:∀(s:Nat) (p:Part) (lev:Nat),p.size<=s->∀q∈zw lev p,q.1.size<=p.size/\∀lev' r,r∈zw lev' q.1->r.1∈(zw lev p).map (·.1):=by
 intro s
 induction s with
 | zero=> intro p lev hp;exact absurd (by rw [Part.size,zv];simp) (Nat.not_lt.2 hp)
 | succ s ih=>
  intro p lev hps q hq;rw [zv] at hq;rcases List.mem_cons.1 hq with rfl | hq
  ·exact ⟨ZL _,fun lev' r hr=> by rw [qJ lev lev'];exact List.mem_map.2 ⟨r,hr,rfl⟩⟩
  ·obtain ⟨k,hk,hqk⟩:=List.mem_flatMap.1 hq
   have hlt:=qi hk;obtain ⟨h1,h2⟩:=ih k (lev + 1) (by omega) q hqk;refine ⟨by omega,fun lev' r hr=> ?_⟩;obtain ⟨y,hy,hyr⟩:=List.mem_map.1 (h2 lev' r hr);rw [zv];exact List.mem_map.2 ⟨y,List.mem_cons_of_mem _ (jh hk hy),hyr⟩
def okJ:Part->Prop
 | .def_ (.mk _ _ j _ _)=> j.length<=3
 | _=> True
theorem zkC {p:Part} (h:p.shaped=true):okJ p:=by
 cases p with
 | proc t=> trivial
 | exp t=> trivial
 | def_ t=>
  obtain ⟨f,t,j,d,k⟩:=t;simp only [Part.shaped,yB,qH,Bool.or_eq_true,Bool.and_eq_true,beq_iff_eq,decide_eq_true_eq] at h;show j.length<=3;omega
mutual
theorem znr (lev:Nat):∀c:zg,(∀q∈qF lev c,okJ q.1)->c.joins.length + (zl (yk c)).length<=3 * (qF lev c).length
 | .mk f t j d k,h=> by
  have h0:j.length<=3:=h (.def_ (.mk f t j d k),lev) (by simp [qF]);have h1:=zhe (lev + 1) d (fun q hq=> h q (by simp [qF,hq]));simp only [zg.joins,qF,List.length_cons,List.length_append];unfold yk
  split
  ·have e:zl (d::zO d)=zS d ++ zl (zO d):=by simp [zl]
   rw [e,List.length_append];omega
  ·simp [zl];omega
theorem zhe (lev:Nat):∀d:List zg,(∀q∈qu lev d,okJ q.1)->(zS d).length + (zl (zO d)).length<=3 * (qu lev d).length
 | [],_=> by simp [zS,zl,zO]
 | c::cs,h=> by
  have h1:=znr lev c (fun q hq=> h q (by simp [qu,hq]));have h2:=zhe lev cs (fun q hq=> h q (by simp [qu,hq]));have e1:zS (c::cs)=c.joins.map (·.text) ++ zS cs:=by simp [zS]
  have e2:zl (zO (c::cs))=zl (yk c) ++ zl (zO cs):=by simp [zl,zO]
  rw [e1,e2];simp only [qu,List.length_append,List.length_map];omega
end
theorem zg8 (d:List zg) (h:∀q∈qu 0 d,okJ q.1):(zl (zm d)).length<=3 * zZ d:=by
 have:=zhe 0 d h;have e:zl (zm d)=zS d ++ zl (zO d):=by simp [zl,zm]
 rw [e,List.length_append];exact this
def Even (p:Part):Prop:=p.size<=60/\∀q∈zw 1 p,q.1.shaped=true/\q.2<=12
theorem zgZ {p:Part} (h:Even p) {o:Int} {t:ByteArray} {a:List Exp} {d:List zg} {k:List Term} {lv:Nat} (hq:(Part.proc (.mk o t a d k),lv)∈zw 1 p):zZ d<=60/\(zl (zm d)).length<=180:=by
 obtain ⟨h1,h2⟩:=zj7 p.size p 1 (ZL _) _ hq
 have hsz:zZ d<=(Part.proc (.mk o t a d k)).size:=by
  simp only [Part.size,zw,qL,List.length_cons,List.length_append,zZ];rw [jz 0 (0 + 1) d];omega
 have hc:zZ d<=60:=by have:=h.1;simp only at h1;omega
 refine ⟨hc,?_⟩
 have:=zg8 d (fun q hq2=> by
  have h3:=h2 0 (q.1,q.2 + 1) ?_
  ·obtain ⟨y,hy,hyq⟩:=List.mem_map.1 h3
   simp only at hyq;rw [<-hyq];exact zkC (h.2 y hy).1
  ·have:∀(d:List zg) (lev:Nat) (q:Part×Nat),q∈qu lev d->(q.1,q.2 + 1)∈qu (lev + 1) d:=nodesCs_up
   simp only [zw,qL];exact List.mem_cons_of_mem _ (by simp [this d 0 q hq2]))
 omega
 where
 nodesCs_up:∀(d:List zg) (lev:Nat) (q:Part×Nat),q∈qu lev d->(q.1,q.2 + 1)∈qu (lev + 1) d:=by
  have key:∀(s:Nat) (p:Part) (lev:Nat),p.size<=s->∀q∈zw lev p,(q.1,q.2 + 1)∈zw (lev + 1) p:=by
   intro s
   induction s with
   | zero=> intro p lev hp;exact absurd (by rw [Part.size,zv];simp) (Nat.not_lt.2 hp)
   | succ s ih=>
    intro p lev hps q hq;rw [zv] at hq ⊢;rcases List.mem_cons.1 hq with rfl | hq
    ·exact List.mem_cons_self ..
    ·obtain ⟨k,hk,hqk⟩:=List.mem_flatMap.1 hq
     exact List.mem_cons_of_mem _ (jh hk (ih k (lev + 1) (by have:=qi hk;omega) q hqk))
  intro d lev q hq;rw [j6] at hq ⊢;obtain ⟨k,hk,hqk⟩:=List.mem_flatMap.1 hq;exact jh hk (key k.size k lev (ZL _) q hqk)
def yb:Part->Bool
 | .proc (.mk op _ _ defs _)=> if op=4 then qZ defs else true
 | _=> true
theorem zbg {p:Part}:zT p↔Even p/\∀q∈zw 1 p,yb q.1=true:=by
 constructor
 ·rintro ⟨h1,h2⟩
  refine ⟨⟨h1,fun q hq=> ⟨(h2 q hq).1,(h2 q hq).2.1⟩⟩,fun q hq=> ?_⟩;have:=(h2 q hq).2.2;obtain ⟨q,lv⟩:=q;cases q with
  | exp t=> rfl
  | def_ t=> rfl
  | proc t=>
   obtain ⟨o,t,a,d,k⟩:=t;simp only [yb]
   split
   ·rename_i ho
    obtain ⟨U,_,_,hU⟩:=this ho;exact zeQ.2 ⟨U,hU⟩
   ·rfl
 ·rintro ⟨he,h2⟩
  refine ⟨he.1,fun q hq=> ⟨(he.2 q hq).1,(he.2 q hq).2,?_⟩⟩;have:=h2 q hq;obtain ⟨q,lv⟩:=q;cases q with
  | exp t=> trivial
  | def_ t=> trivial
  | proc t=>
   obtain ⟨o,t,a,d,k⟩:=t;intro ho;simp only [yb,if_pos ho] at this;obtain ⟨U,hU⟩:=zeQ.1 this;obtain ⟨b1,b2⟩:=zgZ he hq;exact ⟨U,by omega,by omega,hU⟩
theorem zbS {F:Fence} {n:Nat} {P:Program} {Q:Exit->Act->World->Prop} {a:Act} {w:World} {x y:Code}
  (h:∀K:Act->World->Prop,(∀a w,wpE F n P y Q a w->K a w)->wpE F n P x (Exit.then K Q) a w):wpE F n P (.seq x y) Q a w:=zmR (h _ fun _ _ h=> h)
def ziY {B:Nat} {u:World} (pre:List (NdT B u)):Prop:=pre.length<=60/\∀q∈pre,q.1.2.1.shaped=true/\q.1.2.2<=12
def BadN {B:Nat} {u:World} (pre:List (NdT B u)):Prop:=60 < pre.length∨∃q∈pre,¬(q.1.2.1.shaped=true/\q.1.2.2<=12)
theorem zkM {B:Nat} {u:World} {p:Part} {xs:List (NdT B u)} (hx:xs.map (fun x=> x.1.2)=zw 1 p) (h:ziY xs):Even p:=by
 constructor
 ·have:(zw 1 p).length=xs.length:=by rw [<-hx,List.length_map]
  rw [Part.size,yP 0 1,this];exact h.1
 ·intro q hq
  rw [<-hx] at hq;obtain ⟨y,hy,rfl⟩:=List.mem_map.1 hq;exact h.2 y hy
theorem zk7 {B:Nat} {u:World} {p:Part} {xs:List (NdT B u)} (hx:xs.map (fun x=> x.1.2) <+:zw 1 p) (h:BadN xs):¬Even p:=by
 rintro ⟨h1,h2⟩;rcases h with h | ⟨q,hq,hn⟩
 ·have:=hx.length_le
  rw [List.length_map] at this;rw [Part.size,yP 0 1] at h1;omega
 ·exact hn (h2 _ (hx.subset (List.mem_map.2 ⟨q,hq,rfl⟩)))
def zmh {B:Nat} {u:World} (pre:List (NdT B u)):Prop:=∀q∈pre,yb q.1.2.1=true
def zij {B:Nat} {u:World} (pre:List (NdT B u)):Prop:=∃q∈pre,yb q.1.2.1=false
def zfp (p:Part) (e:Ending):Prop:=(zT p/\e= .returned (.tuple #[]))∨(¬zT p/\e= .panicked (yn 2))
set_option maxRecDepth 100000 in
theorem zmY (n B:Nat) (hn:6<=n) (u:World) (p:Part) (v:Value) (w:World) (hu:zh B u w) (hB:B<=w.heap.size) (hv:zY B u v p):
  CallsIn Fence.wide n Tryz.prog 65 #[v] w fun e w'=> zfp p e/\Below w.heap.size w w':=by
 obtain ⟨ty,x,rfl⟩:=xa hv;have hdd:∀k:Nat,(Fence.wide.depth.isSome=true->1<=k):=fun k h=> by cases h
 have h1:1<=n:=by omega
 have h1':1<=n - 1 - 1:=by omega
 have hF:∀k,Fence.wide.fn k:=fun _=> trivial;refine zcB Tryz.func65 rfl trivial ?_;simp only [Tryz.ntmps65,List.size_toArray,List.length_cons,List.length_nil,Nat.reduceAdd,Nat.reduceSub,Array.replicate_succ,Array.replicate_zero,List.push_toArray,List.append_toArray,List.nil_append,List.cons_append];refine zbS fun K1 hK1=> ?_;refine zc1 ?_
 gi_wp2
 refine zbS fun K2 hK2=> ?_;refine zbS fun K3 hK3=> ?_;refine zc1 ?_
 gi_wp2_with (gi_at_call 116;refine (zcI (n - 1) _ _ _).mono ?_;rintro e w' ⟨rfl,rfl⟩)
 refine zfY ?_;obtain ⟨W0,hW0⟩:∃W0,W0=((w.alloc (.cells #[.int .i64 0] 3)).alloc (.cells #[.iface ty x] 154)):=⟨_,rfl⟩;have hsz:W0.heap.size=w.heap.size + 2:=by rw [hW0];simp
 have hb0:Below w.heap.size w W0:=by rw [hW0];exact (ZQ w _).alloc (by simp) _
 have c0:W0.cell? ⟨w.heap.size,0,none⟩=some (.int .i64 0)/\W0.frozen? ⟨w.heap.size,0,none⟩=false:=by
  rw [hW0];constructor
  ·rw [ZP _ _ _ (by simp),ZA _ _ _ _ rfl];rfl
  ·rw [World.frozen?_alloc_past _ _ _ (by simp),World.frozen?_alloc_at _ _ _ _ rfl]
 have c2:W0.cell? ⟨w.heap.size + 1,0,none⟩=some (.iface ty x):=by
  rw [hW0,ZA _ _ _ _ (by simp)];rfl
 rw [<-hW0];have HW:=ZH hW0;clear hW0;have hst:=zhb (n - 1) w.heap.size (w.heap.size + 1) (w.heap.size + 1) B u p _ hB (by omega) hv W0 (hu.trans ((Below.keptC hb0).mono hB)) (by omega) c2
 refine za7 rfl h1 (gf:=157) (lb:=#[.pointer (some ⟨w.heap.size + 1,0,none⟩)]) rfl trivial (enters_of Tryz.func157 (by kernel_rfl) rfl)
  hst KpC.trans (fun W l o o' _ h1 h2 _=> KpC.putObj W l o o' h1 h2) (ZF _ _) (fun _=> rfl)
  (fun pre W=> ((W.cell? ⟨w.heap.size,0,none⟩=some (.int .i64 pre.length)/\W.frozen? ⟨w.heap.size,0,none⟩=false)/\Below w.heap.size w W)/\ziY pre)
  (fun c pre W=> Below w.heap.size w W/\(c=yn 2/\BadN pre))
  (OwnFrom.and (OwnFrom.and (Own.from (fun s A B row hs hg hr=> ⟨cell_kept hs.1 hg hr,(frozen_kept hs.1 hg hr).trans hs.2⟩) _) (ownFrom_below (ZL _) (by omega))) (fun _ _ _ _ hs _ _=> hs))
  (fun c=> OwnFrom.and (ownFrom_below (ZL _) (by omega)) (fun _ _ _ _ hs _ _=> hs))
  ⟨⟨⟨c0.1,c0.2⟩,hb0⟩,by simp,by simp⟩
  (fun x'=> { tmps:=#[.iface ty x,undef, .pointer (some ⟨w.heap.size,0,none⟩),x'.1.1, .int .i64 x'.1.2.2,undef,undef,undef, .iface ty x, .func (.func 157) #[] #[.pointer (some ⟨w.heap.size + 1,0,none⟩)],x'.1.1, .int .i64 x'.1.2.2,undef,undef,undef,undef,undef,undef,undef,undef,undef,undef,undef,undef,undef,undef,undef,undef,undef,undef,undef,undef,undef,undef,undef,undef,undef,undef,undef,undef,undef,undef,undef,undef,undef,undef,undef,undef],defers:= [] }) ?assign ?body ?done ?up
 case assign=>
  intro l x W K hK;dsimp only [encN]
  gi_wp2
  exact hK
 case body=>
  rintro l pre x' W ⟨⟨⟨hc,hf⟩,hB'⟩,hg1,hg2⟩ _;have hBs:=hB'.setCell (p:=⟨w.heap.size,0,none⟩) (ZL _) (.int .i64 ((pre.length:Int) + 1));have hlt:=zD hc;have ko:KeepsOthers W (W.setCell ⟨w.heap.size,0,none⟩ (.int .i64 ((pre.length:Int) + 1))):=KeepsOthers.setCell _ _ _;by_cases h60:pre.length + 1<=60
  case neg=>
   have t1:decide ((60:Int) < (pre.length:Int) + 1)=true:=by simp;omega
   have HBad:=ZH (show BadN (pre ++ [x']) from .inl (by simp;omega))
   gi_wp2_with (gi_at_call 103;refine (CallsIn.inRound l (callsIn_wide.2 (j7 2 _))).mono ?_;rintro e W2 ⟨rfl,rfl⟩)
   exact ⟨rfl,ko,hBs,rfl,HBad.out⟩
  have t1:decide ((60:Int) < (pre.length:Int) + 1)=false:=by simp;omega
  by_cases h12:x'.1.2.2<=12
  case neg=>
   have t2:decide ((12:Int) < (x'.1.2.2:Int))=true:=by simp;omega
   have HBad:=ZH (show BadN (pre ++ [x']) from .inr ⟨x',by simp,fun h=> h12 h.2⟩)
   gi_wp2_with (gi_at_call 103;refine (CallsIn.inRound l (callsIn_wide.2 (j7 2 _))).mono ?_;rintro e W2 ⟨rfl,rfl⟩)
   exact ⟨rfl,ko,hBs,rfl,HBad.out⟩
  have t2:decide ((12:Int) < (x'.1.2.2:Int))=false:=by simp;omega
  have hsh:=zje x'.1.2.1 x'.1.1 B u _ (hu.trans ((Below.keptC hBs).mono hB)) (by have:=hBs.size;omega) x'.2.1;have d0:(W.setCell ⟨w.heap.size,0,none⟩ (.int .i64 ((pre.length:Int) + 1))).cell? ⟨w.heap.size,0,none⟩=some (.int .i64 ((pre.length:Int) + 1)):=World.cell?_setCell_same' _ _ _ (by rw [hc];rfl);have d1:(W.setCell ⟨w.heap.size,0,none⟩ (.int .i64 ((pre.length:Int) + 1))).frozen? ⟨w.heap.size,0,none⟩=false:=by rw [World.frozen?_setCell];exact hf
  cases hshp:x'.1.2.1.shaped with
  | false=>
   rw [hshp] at hsh;have HBad:=ZH (show BadN (pre ++ [x']) from .inr ⟨x',by simp,fun h=> by rw [hshp] at h;cases h.1⟩);clear hshp
   gi_wp2_with fail
   refine (CallsIn.inRound l (callsIn_wide.2 hsh)).mono ?_;clear hsh;rintro e W2 ⟨rfl,hb2⟩
   gi_wp2_with (gi_at_call 103;refine (CallsIn.inRound l (callsIn_wide.2 (j7 2 _))).mono ?_;rintro e W3 ⟨rfl,rfl⟩)
   exact ⟨rfl,ko.trans (KeepsOthers.of_below hb2),hBs.trans (hb2.mono hBs.size),rfl,HBad.out⟩
  | true=>
   rw [hshp] at hsh
   have HGood:=ZH (show ziY (pre ++ [x']) from ⟨by simp;omega,fun q hq=> by
    rcases List.mem_append.1 hq with hq | hq
    ·exact hg2 q hq
    ·simp at hq;subst hq;exact ⟨hshp,h12⟩⟩)
   have HFine:=ZH (show zeo x'.1.2 from ⟨za2 hshp,h12⟩);clear hshp hg2
   gi_wp2_with fail
   refine (CallsIn.inRound l (callsIn_wide.2 hsh)).mono ?_;clear hsh;rintro e W2 ⟨rfl,hb2⟩
   gi_wp2
   refine ⟨ko.trans (KeepsOthers.of_below hb2),(KpC.setCell _ _ _ (ZL _) (by simp)).trans (KpC.of_below hb2),HFine.out,⟨⟨?_,?_⟩,hBs.trans (hb2.mono hBs.size)⟩,HGood.out⟩
   ·rw [hb2.cell (p:=⟨w.heap.size,0,none⟩) (by simp [World.setCell];omega),d0];simp
   ·rw [hb2.frozen (p:=⟨w.heap.size,0,none⟩) (by simp [World.setCell];omega),d1]
 case up=>
  rintro D c pre W hD hpre ⟨hB',rfl,hbad⟩ hK;refine ⟨by simp, .inl ⟨_,_,rfl,run_takeDeferred hK,?_⟩⟩;exact ⟨.inr ⟨fun hfm=> zk7 hpre hbad (zbg.1 hfm).1,rfl⟩,hB'.trans (belowK_b (w:=w) (ZL _) _ D _ _ (by omega) hK rfl rfl)⟩
 case done=>
  rintro D ys W hD hys ⟨⟨⟨hc,hf⟩,hB'⟩,hgd⟩ hK;have hev:=ZH (zkM hys hgd);clear hys hst hgd;refine hK2 _ _ ?_;clear hK2 K2;have hWz:=hB'.size;refine zbS fun K4 hK4=> ?_;refine zc1 ?_
  gi_wp2_with (gi_at_call 116;refine (zcI (n - 1) _ _ _).mono ?_;rintro e w' ⟨rfl,rfl⟩)
  refine zfY ?_;have c3:(W.alloc (.cells #[.iface ty x] 154)).cell? ⟨W.heap.size,0,none⟩=some (.iface ty x):=by rw [ZA _ _ _ _ rfl];rfl
  have hB3:=hB'.alloc hWz (.cells #[.iface ty x] 154);have hK3:(W.alloc (.cells #[.iface ty x] 154)).heap[D]?=some (.deferred (some [])):=(ZO _ _ D (ZG hK).1).trans hK;have hst:=zhb (n - 1) w.heap.size W.heap.size W.heap.size B u p _ hB (by omega) hv (W.alloc (.cells #[.iface ty x] 154)) (hu.trans ((Below.keptC hB3).mono hB)) (by simp) c3;have hDl:=(ZG hK).1
  refine za7 rfl h1 (gf:=157) (lb:=#[.pointer (some ⟨W.heap.size,0,none⟩)]) rfl trivial (enters_of Tryz.func157 (by kernel_rfl) rfl)
   hst KpC.trans (fun W l o o' _ h1 h2 _=> KpC.putObj W l o o' h1 h2) (ZF _ _) (fun _=> rfl)
   (fun pre W'=> (W'.heap[D]?=some (.deferred (some []))/\Below w.heap.size w W')/\zmh pre)
   (fun c pre W'=> (W'.heap[D]?=some (.deferred (some []))/\Below w.heap.size w W')/\c=yn 2/\zij pre)
   (OwnFrom.and (OwnFrom.and (fun s A B row hs hg hr=> (hg.block D (ZG hs).1 (by intro e;have:=(hr D e.symm).1;simp at this;omega)).trans hs) (ownFrom_below (ZL _) (by simp;omega))) (fun _ _ _ _ hs _ _=> hs))
   (fun c=> OwnFrom.and (OwnFrom.and (fun s A B row hs hg hr=> (hg.block D (ZG hs).1 (by intro e;have:=(hr D e.symm).1;simp at this;omega)).trans hs) (ownFrom_below (ZL _) (by simp;omega))) (fun _ _ _ _ hs _ _=> hs))
   ⟨⟨hK3,hB3⟩,by intro q hq;simp at hq⟩
   (fun x'=> { tmps:=#[.iface ty x,undef, .pointer (some ⟨w.heap.size,0,none⟩),undef,undef,x'.1.1,undef,undef, .iface ty x, .func (.func 157) #[] #[.pointer (some ⟨w.heap.size + 1,0,none⟩)],undef,undef,undef,undef,undef,undef,undef,undef,undef,undef,undef,undef,undef,undef,undef,undef, .iface ty x, .func (.func 157) #[] #[.pointer (some ⟨W.heap.size,0,none⟩)],x'.1.1, .int .i64 x'.1.2.2,undef,undef,undef,undef,undef,undef,undef,undef,undef,undef,undef,undef,undef,undef,undef,undef,undef,undef],defers:= [] }) ?assign2 ?body2 ?done2 ?up2
  case assign2=>
   intro l x W K hK;dsimp only [encN]
   gi_wp2
   exact hK
  case body2=>
   rintro l pre ⟨⟨v',q,lv⟩,hvq,hGq⟩ W4 ⟨⟨hD4,hB4⟩,hag4⟩ hsp;have q1:=zcr;have q4:=zcp;have q5:=zbQ;have hz4:=hB4.size;have hmem:(q,lv)∈zw 1 p:=hsp.subset (List.mem_map.2 ⟨(⟨(v',q,lv),hvq,hGq⟩:NdT B u),List.mem_append_right _ (List.mem_cons_self ..),rfl⟩);have HFine:=ZH (show zeo (q,lv) from ⟨za2 (hev.out.2 _ hmem).1,(hev.out.2 _ hmem).2⟩)
   have hagn:yb q=true->zmh (pre ++ [(⟨(v',q,lv),hvq,hGq⟩:NdT B u)]):=by
    intro h r hr;rcases List.mem_append.1 hr with hr | hr
    ·exact hag4 r hr
    ·simp at hr;subst hr;exact h
   have hagb:yb q=false->zij (pre ++ [(⟨(v',q,lv),hvq,hGq⟩:NdT B u)]):=fun h=> ⟨(⟨(v',q,lv),hvq,hGq⟩:NdT B u),List.mem_append_right _ (List.mem_cons_self ..),h⟩;have HAG:=ZH hagn;have HAB:=ZH hagb;clear hagn hagb hsp hag4;simp only at hvq hGq;cases q with
   | proc t=>
    obtain ⟨o,t,a,d,k⟩:=t;obtain ⟨cs,rfl,h1z,va,vd,vk,rfl,⟨aa,ca,rfl,_,ha⟩,⟨ad,cd,rfl,_,hd⟩,⟨ak,ck,rfl,_,hk⟩⟩:=hvq;have bx:Below W4.heap.size W4 (W4.alloc (.cells #[.int .i64 o, .string t, .slice aa a.length ca, .slice ad d.length cd, .slice ak k.length ck] 83)):=ZQ W4 _;by_cases ho:o=4
    ·subst ho
     obtain ⟨u1,u2⟩:=zgZ hev.out hmem;have hag:=zjJ B u d (by omega) (by omega) ad cd (W4.alloc (.cells #[.int .i64 4, .string t, .slice aa a.length ca, .slice ad d.length cd, .slice ak k.length ck] 83)) (hu.trans ((Below.keptC (hB4.trans (bx.mono hz4))).mono hB)) (by simp;omega) hd;have e4:yb (.proc (.mk 4 t a d k))=qZ d:=by simp [yb]
     rw [e4] at HAG HAB;clear e4 hmem;cases hab:qZ d with
     | true=>
      rw [hab] at hag;have HA:=ZH (HAG.out hab);clear hab
      gi_wp2_with (gi_at_call 118;refine (CallsIn.inRound l (callsIn_wide.2 hag)).mono ?_;clear hag;rintro e W5 ⟨rfl,hb5⟩)
      have b5:Below W4.heap.size W4 W5:=bx.trans (hb5.mono (by simp));exact ⟨KeepsOthers.of_below b5,KpC.of_below b5,HFine.out,⟨(b5.block D (ZG hD4).1).trans hD4,hB4.trans (b5.mono hz4)⟩,HA.out⟩
     | false=>
      rw [hab] at hag;have HA:=ZH (HAB.out hab);clear hab
      gi_wp2_with (first
       | (gi_at_call 118;refine (CallsIn.inRound l (callsIn_wide.2 hag)).mono ?_;clear hag;rintro e W5 ⟨rfl,hb5⟩)
       | (gi_at_call 103;refine (CallsIn.inRound l (callsIn_wide.2 (j7 2 _))).mono ?_;rintro e W6 ⟨rfl,rfl⟩))
      have b5:=bx.trans (hb5.mono (by simp));exact ⟨rfl,KeepsOthers.of_below b5,⟨(b5.block D (ZG hD4).1).trans hD4,hB4.trans (b5.mono hz4)⟩,rfl,HA.out⟩
    ·have ho':(o==4)=false:=by simpa using ho
     have HA:=ZH (HAG.out (by simp [yb,ho]));clear ho hmem
     gi_wp2
     exact ⟨KeepsOthers.of_below bx,KpC.of_below bx,HFine.out,⟨(bx.block D (ZG hD4).1).trans hD4,hB4.trans (bx.mono hz4)⟩,HA.out⟩
   | exp t=>
    obtain ⟨o,n,t,k⟩:=t;obtain ⟨cs,rfl,h1z,vk,rfl,⟨ak,ck,rfl,_,hk⟩⟩:=hvq;have bx:Below W4.heap.size W4 (W4.alloc (.cells #[.int .i64 0, .string ⟨#[]⟩, .slice none 0 0, .slice none 0 0, .slice none 0 0] 83)):=ZQ W4 _;have HA:=ZH (HAG.out rfl);clear hmem
    gi_wp2
    exact ⟨KeepsOthers.of_below bx,KpC.of_below bx,HFine.out,⟨(bx.block D (ZG hD4).1).trans hD4,hB4.trans (bx.mono hz4)⟩,HA.out⟩
   | def_ t=>
    obtain ⟨f,t,j,d,k⟩:=t;obtain ⟨cs,rfl,h1z,vj,vd,vk,rfl,⟨aj,cj,rfl,_,hj⟩,⟨ad,cd,rfl,_,hd⟩,⟨ak,ck,rfl,_,hk⟩⟩:=hvq;have bx:Below W4.heap.size W4 (W4.alloc (.cells #[.int .i64 0, .string ⟨#[]⟩, .slice none 0 0, .slice none 0 0, .slice none 0 0] 83)):=ZQ W4 _;have HA:=ZH (HAG.out rfl);clear hmem
    gi_wp2
    exact ⟨KeepsOthers.of_below bx,KpC.of_below bx,HFine.out,⟨(bx.block D (ZG hD4).1).trans hD4,hB4.trans (bx.mono hz4)⟩,HA.out⟩
  case up2=>
   rintro D2 c ys W4 hD2 hpre ⟨⟨hD4,hB4⟩,rfl,q,hq,hqb⟩ hK4;simp at hD2;have hDl2:=(ZG hK4).1;have hK5:(W4.putObj D2 (.deferred none)).heap[D]?=some (.deferred (some [])):=(World.putObj_heap_other (by omega)).trans hD4;have b5:Below w.heap.size w (W4.putObj D2 (.deferred none)):=hB4.trans (belowK_b (w:=w) (ZL _) W4 D2 _ _ (by omega) hK4 rfl rfl);have b6:Below w.heap.size w ((W4.putObj D2 (.deferred none)).putObj D (.deferred none)):=b5.trans (belowK_b (w:=w) (ZL _) _ D _ _ (by omega) hK5 rfl rfl);refine ⟨by simp, .inl ⟨_,_,rfl,run_takeDeferred hK4,?_⟩⟩;refine ⟨by simp, .inl ⟨_,_,rfl,run_takeDeferred hK5,?_⟩⟩;refine ⟨.inr ⟨fun hfm=> ?_,rfl⟩,b6⟩;have:=(zbg.1 hfm).2 _ (hpre.subset (List.mem_map.2 ⟨q,hq,rfl⟩));rw [hqb] at this;cases this
  case done2=>
   rintro D2 ys W4 hD2 hys ⟨⟨hD4,hB4⟩,hall⟩ hK4;simp at hD2
   have hfm:zT p:=zbg.2 ⟨hev.out,fun q hq=> by
    rw [<-hys] at hq;obtain ⟨y,hy,rfl⟩:=List.mem_map.1 hq;exact hall y hy⟩
   have hDl2:=(ZG hK4).1;have hK5:(W4.putObj D2 (.deferred none)).heap[D]?=some (.deferred (some [])):=(World.putObj_heap_other (by omega)).trans hD4;have b5:Below w.heap.size w (W4.putObj D2 (.deferred none)):=hB4.trans (belowK_b (w:=w) (ZL _) W4 D2 _ _ (by omega) hK4 rfl rfl);have b6:Below w.heap.size w ((W4.putObj D2 (.deferred none)).putObj D (.deferred none)):=b5.trans (belowK_b (w:=w) (ZL _) _ D _ _ (by omega) hK5 rfl rfl);refine ⟨by simp, .inl ⟨_,_,rfl,run_takeDeferred hK4,?_⟩⟩;refine ⟨by simp, .inl ⟨_,_,rfl,run_takeDeferred hK5,?_⟩⟩;exact ⟨_,results_none rfl _ _ _, .inl ⟨hfm,rfl⟩,b6⟩
theorem zd1 (B:Nat) (u:World) (p:Part) (v:Value) (w:World) (hu:zh B u w) (hB:B<=w.heap.size) (hv:zY B u v p):
  Calls Tryz.prog 65 #[v] w fun e w'=> zfp p e/\Below w.heap.size w w':=
 (callsIn_wide (n:=6)).1 (zmY 6 B (ZL _) u p v w hu hB hv)
end
section
open Go.RowKit
theorem xz (B:Nat) (u:World) (p:Part) (v:Value) (w:World) (hu:zh B u w) (hB:B<=w.heap.size) (hf:zT p) (hv:zY B u v p):
  Calls Tryz.prog 65 #[v] w fun e w'=> e= .returned (.tuple #[])/\Below w.heap.size w w':=
 (zd1 B u p v w hu hB hv).mono fun _ _ ⟨h,hb⟩=> ⟨h.elim (fun h=> h.2) (fun h=> absurd hf h.1),hb⟩
theorem zlA (p:Addr) (w:World):
  CallsD Tryz.prog 136 #[.pointer (some p)] .returning w fun e u' w'=> e= .returned (.tuple #[])/\u'= .returning/\w'=w:=by
 refine callsD_of_wpS Tryz.func136 rfl fun c₀ cs hu=> ?_;apply wpS_seq;apply wpS_region;simp [wpOpsS,go_sem,recoverD,hu,Tryz.ntmps136,Exit.thenS];have e20:=zex;refine wpS_of_wp ?_;simp only [Array.replicate,Array.setIfInBounds];go_wp2;cases c₀
 simp_all [bodyPostS,results,Tryz.results136]
theorem zkA (p:Addr) (x:Value) (c:Int) (older:List PanicEntry) (w:World) (hc:w.cell? p=some x) (hx:x.cells=#[x]) (hz:w.frozen? p=false):
  CallsD Tryz.prog 136 #[.pointer (some p)] (.panicking ({ v:= .iface 152 (.int .i64 c),recovered:=false }::older)) w fun e u' w'=>
   e= .returned (.tuple #[])/\u'= .panicking ({ v:= .iface 152 (.int .i64 c),recovered:=true }::older)/\w'=w.setCell p (.int .i64 c):=by
 refine callsD_of_wpS Tryz.func136 rfl fun c₀ cs hu=> ?_;apply wpS_seq;apply wpS_region;simp [wpOpsS,go_sem,recoverD,hu,Tryz.ntmps136,Exit.thenS];have e20:=zgW;have q:=zi9;refine wpS_of_wp ?_;simp only [Array.replicate,Array.setIfInBounds];go_wp2;simp [bodyPostS,results,Tryz.results136,hu]
structure T5 where
 op:Int
 t:ByteArray
 a0:Option Addr
 n0:Nat
 c0:Nat
 a1:Option Addr
 n1:Nat
 c1:Nat
 a2:Option Addr
 n2:Nat
 c2:Nat
def T5.cells (x:T5):Array Value:=#[.int .i64 x.op, .string x.t, .slice x.a0 x.n0 x.c0, .slice x.a1 x.n1 x.c1, .slice x.a2 x.n2 x.c2]
theorem zbc (K:FuncId) (caps:Array Value) (w:World) (R:T5->World->Prop) (hK:∀args w,(callFunc K args).run Tryz.prog w= .ok (.enter K args) w)
  (hw:Calls Tryz.prog K caps ((w.alloc (.cells #[.int .i64 0, .string ⟨#[]⟩, .slice none 0 0, .slice none 0 0, .slice none 0 0] 33)).alloc (.cells #[.int .i64 0] 37)) fun e w'=> ∃x:T5,e= .returned (.agg #[.int .i64 x.op, .string x.t, .slice x.a0 x.n0 x.c0, .slice x.a1 x.n1 x.c1, .slice x.a2 x.n2 x.c2])/\R x w'/\Below (w.heap.size + 2) ((w.alloc (.cells #[.int .i64 0, .string ⟨#[]⟩, .slice none 0 0, .slice none 0 0, .slice none 0 0] 33)).alloc (.cells #[.int .i64 0] 37)) w'):
  Calls Tryz.prog 82 #[.func (.func K) #[] caps] w fun e w'=> ∃(x:T5) (w1:World),e= .returned (.tuple #[.agg #[.int .i64 x.op, .string x.t, .slice x.a0 x.n0 x.c0, .slice x.a1 x.n1 x.c1, .slice x.a2 x.n2 x.c2], .int .i64 0])/\R x w1/\w1.heap.size=w'.heap.size/\(∀b,w.heap.size + 2<=b->w'.heap[b]?=w1.heap[b]?)/\Below w.heap.size w w':=by
 have hmf:∀(fn:Fn) (first cap:Array Value) (w:World),(Instr.makeFunc fn first cap).run Tryz.prog w= .ok (.func fn first cap) w:=fun _ _ _ _=> rfl
 go_enter_defers Tryz.func82,Tryz.ntmps82
 go_wp2_with fail;refine hw.mono ?_;rintro e w1 ⟨⟨op,t,a0,n0,c0,a1,n1,c1,a2,n2,c2⟩,rfl,hR,hb⟩;have hbk:=hb.block w.heap.size (by omega);have hbk2:=hb.block (w.heap.size + 1) (by omega)
 have e1:((w.alloc (.cells #[.int .i64 0, .string ⟨#[]⟩, .slice none 0 0, .slice none 0 0, .slice none 0 0] 33)).alloc (.cells #[.int .i64 0] 37)).heap[w.heap.size]?=some (.cells #[.int .i64 0, .string ⟨#[]⟩, .slice none 0 0, .slice none 0 0, .slice none 0 0] 33):=by
  rw [ZO _ _ _ (by simp)];exact ZN w _
 have e2:((w.alloc (.cells #[.int .i64 0, .string ⟨#[]⟩, .slice none 0 0, .slice none 0 0, .slice none 0 0] 33)).alloc (.cells #[.int .i64 0] 37)).heap[w.heap.size + 1]?=some (.cells #[.int .i64 0] 37):=by
  have:=ZN (w.alloc (.cells #[.int .i64 0, .string ⟨#[]⟩, .slice none 0 0, .slice none 0 0, .slice none 0 0] 33)) (.cells #[.int .i64 0] 37);rwa [World.size_alloc] at this
 rw [e1] at hbk;rw [e2] at hbk2;have k0:w1.cell? ⟨w.heap.size,0,none⟩=some (.int .i64 0):=by simp [World.cell?,hbk]
 have k1:w1.cell? ⟨w.heap.size,1,none⟩=some (.string ⟨#[]⟩):=by simp [World.cell?,hbk]
 have k2:w1.cell? ⟨w.heap.size,2,none⟩=some (.slice none 0 0):=by simp [World.cell?,hbk]
 have k3:w1.cell? ⟨w.heap.size,3,none⟩=some (.slice none 0 0):=by simp [World.cell?,hbk]
 have k4:w1.cell? ⟨w.heap.size,4,none⟩=some (.slice none 0 0):=by simp [World.cell?,hbk]
 have kf:∀o,w1.frozen? ⟨w.heap.size,o,none⟩=false:=fun o=> by simp [World.frozen?,hbk]
 have k5:w1.cell? ⟨w.heap.size + 1,0,none⟩=some (.int .i64 0):=by simp [World.cell?,hbk2]
 have kf5:w1.frozen? ⟨w.heap.size + 1,0,none⟩=false:=by simp [World.frozen?,hbk2]
 have hBw:Below w.heap.size w w1:=((ZQ w _).alloc (by simp) _).trans (hb.mono (by omega));clear hbk hbk2 e1 e2;have HB:=ZH hb;clear hb;go_wp2;refine leaves_cons (f:=136) (args:=#[.pointer (some ⟨w.heap.size + 1,0,none⟩)]) (by simp) (by simp [go_sem]) ?_;refine (zlA _ _).mono ?_;rintro e u' w'' ⟨rfl,rfl,rfl⟩;simp [Leaves,settle,results,Tryz.results82,go_sem,k0,k1,k2,k3,k4,k5];refine ⟨⟨op,t,a0,n0,c0,a1,n1,c1,a2,n2,c2⟩,⟨rfl,rfl,⟨rfl,rfl,rfl⟩,⟨rfl,rfl,rfl⟩,⟨rfl,rfl,rfl⟩⟩,w1,hR,rfl,?_,?_⟩
 ·intro b hb
  rw [ZC _ _ _ _ (by simp;omega),ZC _ _ _ _ (by simp;omega),ZC _ _ _ _ (by simp;omega),ZC _ _ _ _ (by simp;omega),ZC _ _ _ _ (by simp;omega),ZC _ _ _ _ (by simp;omega)]
 ·exact (((((hBw.setCell (by simp) _).setCell (by simp) _).setCell (by simp) _).setCell (by simp) _).setCell (by simp) _).setCell (by simp) _
end
section
open Go.RowKit Go.Shelf
theorem zmJ (B:Nat) (u:World) (op:Int) (t:ByteArray) (args:List Exp) (defs:List zg) (kids:List Term) (b:Nat) (cs:List Value) (w:World) (hu:zh B u w) (hB:B<=w.heap.size)
  (hf:zT (.proc (.mk op t args defs kids))) (hv:ze B u cs (.mk op t args defs kids)) (hc:zI w b 0 cs):
  Calls Tryz.prog 64 #[.pointer (some ⟨b,0,none⟩)] w fun e w'=> e= .returned (.int .i64 (Part.proc (.mk op t args defs kids)).size)/\Below w.heap.size w w':=by
 have hv':=hv;unfold ze at hv;obtain ⟨hz,_,_,_,rfl,⟨a0,p0,rfl,_⟩,⟨a1,p1,rfl,_⟩,⟨a2,p2,rfl,_⟩⟩:=hv;obtain ⟨c0,c1,c2,c3,c4⟩:=zK hc;have hm:=xz B u _ (.iface 83 (.agg #[.int .i64 op, .string t, .slice a0 args.length p0, .slice a1 defs.length p1, .slice a2 kids.length p2])) w hu hB hf ⟨_,rfl,hv'⟩;have hms:=fun w1 (h1:zh B u w1) (h2:B<=w1.heap.size)=> zdy B u _ (.iface 83 (.agg #[.int .i64 op, .string t, .slice a0 args.length p0, .slice a1 defs.length p1, .slice a2 kids.length p2])) w1 h1 h2 hf ⟨_,rfl,hv'⟩;go_enter Tryz.func64,Tryz.ntmps64
 go_wp2_with (first
  | (go_at_call 65;refine hm.mono ?_;clear hm;rintro e w1 ⟨rfl,hb1⟩;obtain ⟨d0,d1,d2,d3,d4⟩:=zK (hc.below hb1 (zD c0)))
  | (go_at_call 66;refine (hms _ (hu.trans ((Below.keptC hb1).mono hB)) (by have:=hb1.size;omega)).mono ?_;clear hms;rintro e w2 ⟨rfl,hb2⟩))
 go_ret;exact ⟨rfl,hb1.trans (hb2.mono hb1.size)⟩
theorem zm8 (B:Nat) (u:World) (t:Term) (cs:List Value) (w:World) (hu:zh B u w) (hB:B<=w.heap.size) (hf:zT (.proc t)) (hv:ze B u cs t):
  Calls Tryz.prog 23 #[.agg cs.toArray] w fun e w'=> e= .returned (.tuple #[.int .i64 (Part.proc t).size, .int .i64 0])/\Below w.heap.size w w':=by
 obtain ⟨op,tx,args,defs,kids⟩:=t;have hv':=hv;unfold ze at hv;obtain ⟨hz,_,_,_,rfl,⟨a0,p0,rfl,_⟩,⟨a1,p1,rfl,_⟩,⟨a2,p2,rfl,_⟩⟩:=hv;have hmf:∀(fn:Fn) (first cap:Array Value) (w:World),(Instr.makeFunc fn first cap).run Tryz.prog w= .ok (.func fn first cap) w:=fun _ _ _ _=> rfl;obtain ⟨W1,hW1⟩:∃W1,W1=w.alloc (.cells #[.int .i64 op, .string tx, .slice a0 args.length p0, .slice a1 defs.length p1, .slice a2 kids.length p2] 33):=⟨_,rfl⟩;have b1:Below w.heap.size w W1:=by rw [hW1];exact ZQ w _
 have z1:W1.heap.size=w.heap.size + 1:=by rw [hW1];simp
 have cc:zI (W1.alloc (.cells #[.int .i64 0] 37)) w.heap.size 0 [.int .i64 op, .string tx, .slice a0 args.length p0, .slice a1 defs.length p1, .slice a2 kids.length p2]:=fun j hj=> by
  rw [ZP _ _ _ (by omega),hW1,ZA _ _ _ _ rfl]
  match j,hj with
  | 0,_=> rfl
  | 1,_=> rfl
  | 2,_=> rfl
  | 3,_=> rfl
  | 4,_=> rfl
 have b2:Below W1.heap.size W1 (W1.alloc (.cells #[.int .i64 0] 37)):=ZQ W1 _;have hw:=zmJ B u op tx args defs kids w.heap.size _ (W1.alloc (.cells #[.int .i64 0] 37)) (hu.trans ((Below.keptC (b1.trans (b2.mono (by omega)))).mono hB)) (by simp;omega) hf hv' cc
 have ha:=zeP 64 #[.pointer (some ⟨w.heap.size,0,none⟩)] W1 (fun v _=> v= .int .i64 (Part.proc (.mk op tx args defs kids)).size) (enters_of Tryz.func64 (by kernel_rfl) rfl)
  (hw.mono fun e w' ⟨h1,h2⟩=> ⟨_,h1,rfl,h2.mono (by simp)⟩)
 have HW:=ZH hW1;go_enter Tryz.func23,Tryz.ntmps23;clear hW1;go_wp2_with (go_at_call 63;rw [<-HW.out];refine ha.mono ?_;clear ha;rintro e w' ⟨v,w1,rfl,rfl,hb,rfl⟩);go_ret2;refine ⟨rfl,b1.trans (((b2.trans (hb.mono (Nat.le_succ _))).setCell (by simp;omega) _).mono (by omega))⟩
theorem zmD (B:Nat) (u:World) (op:Int) (t:ByteArray) (args:List Exp) (defs:List zg) (kids:List Term) (b:Nat) (cs:List Value) (w:World) (hu:zh B u w) (hB:B<=w.heap.size)
  (hf:zT (.proc (.mk op t args defs kids))) (hv:ze B u cs (.mk op t args defs kids)) (hc:zI w b 0 cs):
  Calls Tryz.prog 67 #[.pointer (some ⟨b,0,none⟩)] w fun e w'=> e= .returned (.int .i64 (Part.proc (.mk op t args defs kids)).depth)/\Below w.heap.size w w':=by
 have hv':=hv;unfold ze at hv;obtain ⟨hz,_,_,_,rfl,⟨a0,p0,rfl,_⟩,⟨a1,p1,rfl,_⟩,⟨a2,p2,rfl,_⟩⟩:=hv;obtain ⟨c0,c1,c2,c3,c4⟩:=zK hc;have hm:=xz B u _ (.iface 83 (.agg #[.int .i64 op, .string t, .slice a0 args.length p0, .slice a1 defs.length p1, .slice a2 kids.length p2])) w hu hB hf ⟨_,rfl,hv'⟩;have hms:=fun w1 (h1:zh B u w1) (h2:B<=w1.heap.size)=> zdy B u _ (.iface 83 (.agg #[.int .i64 op, .string t, .slice a0 args.length p0, .slice a1 defs.length p1, .slice a2 kids.length p2])) w1 h1 h2 hf ⟨_,rfl,hv'⟩;go_enter Tryz.func67,Tryz.ntmps67
 go_wp2_with (first
  | (go_at_call 65;refine hm.mono ?_;clear hm;rintro e w1 ⟨rfl,hb1⟩;obtain ⟨d0,d1,d2,d3,d4⟩:=zK (hc.below hb1 (zD c0)))
  | (go_at_call 66;refine (hms _ (hu.trans ((Below.keptC hb1).mono hB)) (by have:=hb1.size;omega)).mono ?_;clear hms;rintro e w2 ⟨rfl,hb2⟩))
 go_ret;exact ⟨rfl,hb1.trans (hb2.mono hb1.size)⟩
theorem zna (B:Nat) (u:World) (t:Term) (cs:List Value) (w:World) (hu:zh B u w) (hB:B<=w.heap.size) (hf:zT (.proc t)) (hv:ze B u cs t):
  Calls Tryz.prog 24 #[.agg cs.toArray] w fun e w'=> e= .returned (.tuple #[.int .i64 (Part.proc t).depth, .int .i64 0])/\Below w.heap.size w w':=by
 obtain ⟨op,tx,args,defs,kids⟩:=t;have hv':=hv;unfold ze at hv;obtain ⟨hz,_,_,_,rfl,⟨a0,p0,rfl,_⟩,⟨a1,p1,rfl,_⟩,⟨a2,p2,rfl,_⟩⟩:=hv;have hmf:∀(fn:Fn) (first cap:Array Value) (w:World),(Instr.makeFunc fn first cap).run Tryz.prog w= .ok (.func fn first cap) w:=fun _ _ _ _=> rfl;obtain ⟨W1,hW1⟩:∃W1,W1=w.alloc (.cells #[.int .i64 op, .string tx, .slice a0 args.length p0, .slice a1 defs.length p1, .slice a2 kids.length p2] 33):=⟨_,rfl⟩;have b1:Below w.heap.size w W1:=by rw [hW1];exact ZQ w _
 have z1:W1.heap.size=w.heap.size + 1:=by rw [hW1];simp
 have cc:zI (W1.alloc (.cells #[.int .i64 0] 37)) w.heap.size 0 [.int .i64 op, .string tx, .slice a0 args.length p0, .slice a1 defs.length p1, .slice a2 kids.length p2]:=fun j hj=> by
  rw [ZP _ _ _ (by omega),hW1,ZA _ _ _ _ rfl]
  match j,hj with
  | 0,_=> rfl
  | 1,_=> rfl
  | 2,_=> rfl
  | 3,_=> rfl
  | 4,_=> rfl
 have b2:Below W1.heap.size W1 (W1.alloc (.cells #[.int .i64 0] 37)):=ZQ W1 _;have hw:=zmD B u op tx args defs kids w.heap.size _ (W1.alloc (.cells #[.int .i64 0] 37)) (hu.trans ((Below.keptC (b1.trans (b2.mono (by omega)))).mono hB)) (by simp;omega) hf hv' cc
 have ha:=zeP 67 #[.pointer (some ⟨w.heap.size,0,none⟩)] W1 (fun v _=> v= .int .i64 (Part.proc (.mk op tx args defs kids)).depth) (enters_of Tryz.func67 (by kernel_rfl) rfl)
  (hw.mono fun e w' ⟨h1,h2⟩=> ⟨_,h1,rfl,h2.mono (by simp)⟩)
 have HW:=ZH hW1;go_enter Tryz.func24,Tryz.ntmps24;clear hW1;go_wp2_with (go_at_call 63;rw [<-HW.out];refine ha.mono ?_;clear ha;rintro e w' ⟨v,w1,rfl,rfl,hb,rfl⟩);go_ret2;refine ⟨rfl,b1.trans (((b2.trans (hb.mono (Nat.le_succ _))).setCell (by simp;omega) _).mono (by omega))⟩
theorem zkJ (B:Nat) (u:World) (p:Part) (v:Value) (w:World) (hu:zh B u w) (hB:B<=w.heap.size) (hf:zT p) (hv:zY B u v p):
  Calls Tryz.prog 68 #[v] w fun e w'=> e= .returned (.int .i64 0)/\Below w.heap.size w w':=by
 obtain ⟨ty,x,rfl⟩:=xa hv;have hmf:∀(fn:Fn) (first cap:Array Value) (w:World),(Instr.makeFunc fn first cap).run Tryz.prog w= .ok (.func fn first cap) w:=fun _ _ _ _=> rfl;obtain ⟨W1,hW1⟩:∃W1,W1=w.alloc (.cells #[.iface ty x] 154):=⟨_,rfl⟩;have b1:Below w.heap.size w W1:=by rw [hW1];exact ZQ w _
 have z1:W1.heap.size=w.heap.size + 1:=by rw [hW1];simp
 have cc:(W1.alloc (.cells #[.int .i64 0] 37)).cell? ⟨w.heap.size,0,none⟩=some (.iface ty x):=by
  rw [ZP _ _ _ (by omega),hW1,ZA _ _ _ _ rfl];rfl
 have b2:Below W1.heap.size W1 (W1.alloc (.cells #[.int .i64 0] 37)):=ZQ W1 _;have hm:=xz B u p _ (W1.alloc (.cells #[.int .i64 0] 37)) (hu.trans ((Below.keptC (b1.trans (b2.mono (by omega)))).mono hB)) (by simp;omega) hf hv;have HW:=ZH hW1;clear hW1
 have hw:Calls Tryz.prog 120 #[.pointer (some ⟨w.heap.size,0,none⟩)] (W1.alloc (.cells #[.int .i64 0] 37)) fun e w'=> ∃v,e= .returned v/\v= .bool true/\Below (W1.heap.size + 1) (W1.alloc (.cells #[.int .i64 0] 37)) w':=by
  go_enter Tryz.func120,Tryz.ntmps120;go_wp2_with (go_at_call 65;refine hm.mono ?_;clear hm;rintro e w1 ⟨rfl,hb1⟩);go_ret;exact ⟨_,rfl,rfl,hb1.mono (by simp)⟩
 have ha:=zhy 120 #[.pointer (some ⟨w.heap.size,0,none⟩)] W1 (fun v _=> v= .bool true) (enters_of Tryz.func120 (by kernel_rfl) rfl) hw;go_enter Tryz.func68,Tryz.ntmps68;clear hw;go_wp2_with (go_at_call 119;rw [<-HW.out];refine ha.mono ?_;clear ha;rintro e w' ⟨v,w1,rfl,rfl,hb,rfl⟩);go_ret;refine ⟨rfl,b1.trans (((b2.trans (hb.mono (Nat.le_succ _))).setCell (by simp;omega) _).mono (by omega))⟩
theorem zgL (B:Nat) (u:World) (t:Term) (cs:List Value) (w:World) (hu:zh B u w) (hB:B<=w.heap.size) (hf:zT (.proc t)) (hv:ze B u cs t):
  Calls Tryz.prog 25 #[.agg cs.toArray] w fun e w'=> e= .returned (.int .i64 0)/\Below w.heap.size w w':=by
 obtain ⟨op,tx,args,defs,kids⟩:=t;have hv':=hv;unfold ze at hv;obtain ⟨hz,_,_,_,rfl,⟨a0,p0,rfl,_⟩,⟨a1,p1,rfl,_⟩,⟨a2,p2,rfl,_⟩⟩:=hv;have b1:Below w.heap.size w (w.alloc (.cells #[.int .i64 op, .string tx, .slice a0 args.length p0, .slice a1 defs.length p1, .slice a2 kids.length p2] 33)):=ZQ w _;have hm:=zkJ B u (.proc (.mk op tx args defs kids)) (.iface 83 (.agg #[.int .i64 op, .string tx, .slice a0 args.length p0, .slice a1 defs.length p1, .slice a2 kids.length p2])) _ (hu.trans ((Below.keptC b1).mono hB)) (by simp;omega) hf ⟨_,rfl,hv'⟩;go_enter Tryz.func25,Tryz.ntmps25;go_wp2_with (go_at_call 68;refine hm.mono ?_;clear hm;rintro e w1 ⟨rfl,hb1⟩);go_ret;exact ⟨rfl,b1.trans (hb1.mono (by simp))⟩
theorem zeA (B:Nat) (u:World) (t:Term) (cs:List Value) (w:World) (hu:zh B u w) (hB:B<=w.heap.size) (hf:zT (.proc t)) (hv:ze B u cs t):
  Calls Tryz.prog 88 #[.agg cs.toArray] w fun e w'=> e= .returned (.tuple #[])/\Below w.heap.size w w':=by
 obtain ⟨op,tx,args,defs,kids⟩:=t;have hv':=hv;unfold ze at hv;obtain ⟨hz,_,_,_,rfl,⟨a0,p0,rfl,_⟩,⟨a1,p1,rfl,_⟩,⟨a2,p2,rfl,_⟩⟩:=hv;have b1:Below w.heap.size w (w.alloc (.cells #[.int .i64 op, .string tx, .slice a0 args.length p0, .slice a1 defs.length p1, .slice a2 kids.length p2] 33)):=ZQ w _;have hm:=zgL B u (.mk op tx args defs kids) _ _ (hu.trans ((Below.keptC b1).mono hB)) (by simp;omega) hf hv';go_enter Tryz.func88,Tryz.ntmps88;go_wp2_with (go_at_call 25;refine hm.mono ?_;clear hm;rintro e w1 ⟨rfl,hb1⟩)
 go_end0
 exact ⟨rfl,b1.trans (hb1.mono (by simp))⟩
theorem zhK (s:ByteArray) (w:World) (hs:s.size<=maxLen) (hn:qn s=true):
  Calls Tryz.prog 84 #[.string s] w fun e w'=> e= .returned (.tuple #[])/\Below w.heap.size w w':=by
 go_enter Tryz.func84,Tryz.ntmps84;go_wp2_with (go_at_call 16;refine (j4 _ _ hs).mono ?_;rintro e w1 ⟨rfl,hb1⟩)
 go_end0
 exact ⟨rfl,hb1⟩
end
end Go.Proofs.YtjmlaeofjjhfmaaGreat
