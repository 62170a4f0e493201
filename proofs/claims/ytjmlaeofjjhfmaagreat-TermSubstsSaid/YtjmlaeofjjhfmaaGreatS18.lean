/- Lemmas. -/
import Derived.Test.YtjmlaeofjjhfmaaGreatS17
set_option linter.unusedVariables false
set_option linter.unusedSimpArgs false
set_option maxRecDepth 10000
set_option maxHeartbeats 16000000
namespace Go.Proofs.YtjmlaeofjjhfmaaGreat
section
open Go.RowKit Go.Shelf Go.Maps Go.WideMaps
theorem Tryz.results142:Tryz.f142.results=#[.cell 4 130]:=by kernel_rfl
theorem zlj (v:Env) (U:Used) (op:Int) (tx:ByteArray) (joins:List Msg) (defs:List zg) (kids:List Term) (I:Env×Used) (hI:I=inside v U (.def_ (.mk op tx joins defs kids))):
  xJ v U (.mk op tx joins defs kids)=match yS v tx with
  | none=> none
  | some t'=> match zau v I.1 joins with
   | none=> none
   | some js=> match jx I.1 I.2 defs with
    | none=> none
    | some y=> match ju I.1 y.2 kids with
     | none=> none
     | some z=> some (.mk op t' js y.1 z.1,z.2):=by
 subst hI;rw [xJ];cases yS v tx with
 | none=> rfl
 | some t'=>
  simp only;cases zau v (inside v U (.def_ (.mk op tx joins defs kids))).1 joins with
  | none=> rfl
  | some js=>
   simp only;cases jx (inside v U (.def_ (.mk op tx joins defs kids))).1 (inside v U (.def_ (.mk op tx joins defs kids))).2 defs with
   | none=> rfl
   | some y=>
    obtain ⟨y1,y2⟩:=y;simp only;cases ju (inside v U (.def_ (.mk op tx joins defs kids))).1 y2 kids with
    | none=> rfl
    | some z=> rfl
theorem zgd {v i:Env} {j:Msg} {t:ByteArray} {l:List ByteArray} (h1:jK v.becomes j.text=some t) (h2:zbR (jK i.becomes) j.names=some l):msgM v i j=some ⟨t,l⟩:=by
 unfold msgM;rw [zcF,h1];simp only;rw [zjn,show yS i=jK i.becomes from funext (zcF i),h2]
theorem zj6 {B N:Nat} {u:World} {m:Option Nat} {b:Base} (hBm:∀r,m=some r->B<=r) (n0 k:Nat) (f:Frame) (fs:List Frame) (aty:TypeId) (acs:Array Value) (fx:Option Nat) (f':Frame) (fs':List Frame) (aty':TypeId) (acs':Array Value) (fx':Option Nat)
  (l:List Msg) (hll:l.length<=1000) (hl:∀j∈l,j.names.length<=1000/\xk (f::fs) j.text/\∀x∈j.names,xk (f'::fs') x) (MJ:List Msg) (hMJ:zau ⟨b,f::fs⟩ ⟨b,f'::fs'⟩ l=some MJ)
  (a:Option Addr) (cap:Nat) (hs:l.length=0∨∃b off,a=some ⟨b,off,none⟩/\b < B/\zX B u b off l) (W:World) (hBn:B<=n0) (hn0:n0<=N) (hN:N<=W.heap.size)
  (hg:Good B u n0 m b (f::fs) (.iface 123 (.agg #[.iface aty (.agg acs), .map fx])) W) (hg':Good B u N m b (f'::fs') (.iface 123 (.agg #[.iface aty' (.agg acs'), .map fx'])) W)
  (h1:W.heap[n0]?=some (.cells #[.iface aty (.agg acs), .map fx] 123)) (h2:yZ k aty' acs' fx' W):
  Calls Tryz.prog 172 #[.slice a l.length cap, .func (.func 173) #[] #[.pointer (some ⟨n0,0,none⟩), .pointer (some ⟨k,0,none⟩)]] W fun e w'=> ∃a' cap',e= .returned (.slice a' l.length cap')/\SlAt w'.heap.size (.slice a' l.length cap') MJ.length (fun b' off=> zX w'.heap.size (blank W.heap.size w') b' off MJ)/\Below W.heap.size W w':=by
 have hst:=Good.stays (b:=b) (fs:=f::fs) (v:= .iface 123 (.agg #[.iface aty (.agg acs), .map fx])) (u:=u) hBn hBm;have hst':=Good.stays (b:=b) (fs:=f'::fs') (v:= .iface 123 (.agg #[.iface aty' (.agg acs'), .map fx'])) (u:=u) (Nat.le_trans hBn hn0) hBm;have hlt1:n0 < W.heap.size:=(ZG h1).1;have hlt2:k < W.heap.size:=(ZG h2).1
 have hstay:∀W1 W',(Good B u n0 m b (f::fs) (.iface 123 (.agg #[.iface aty (.agg acs), .map fx])) W1/\Good B u N m b (f'::fs') (.iface 123 (.agg #[.iface aty' (.agg acs'), .map fx'])) W1/\W1.heap[n0]?=some (.cells #[.iface aty (.agg acs), .map fx] 123)/\yZ k aty' acs' fx' W1)->∀row,W1.grownBy W' row->(∀r,row=some r->W.heap.size<=r)->
   (Good B u n0 m b (f::fs) (.iface 123 (.agg #[.iface aty (.agg acs), .map fx])) W'/\Good B u N m b (f'::fs') (.iface 123 (.agg #[.iface aty' (.agg acs'), .map fx'])) W'/\W'.heap[n0]?=some (.cells #[.iface aty (.agg acs), .map fx] 123)/\yZ k aty' acs' fx' W'):=by
  rintro W1 W' ⟨a1,a2,a3,a4⟩ row hg hr;exact ⟨hst _ _ _ a1 hg (fun r e=> .inl (by have:=hr r e;omega)),hst' _ _ _ a2 hg (fun r e=> .inl (by have:=hr r e;omega)),(hg.block _ (ZG a3).1 (fun e=> by have:=hr _ e.symm;omega)).trans a3,(hg.block _ (ZG a4).1 (fun e=> by have:=hr _ e.symm;omega)).trans a4⟩
 have hc:=zl7 (S:=Unit) B u none W ⟨n0,0,none⟩ ⟨k,0,none⟩ (fun _ W1=> Good B u n0 m b (f::fs) (.iface 123 (.agg #[.iface aty (.agg acs), .map fx])) W1/\Good B u N m b (f'::fs') (.iface 123 (.agg #[.iface aty' (.agg acs'), .map fx'])) W1/\W1.heap[n0]?=some (.cells #[.iface aty (.agg acs), .map fx] 123)/\yZ k aty' acs' fx' W1)
  (fun (_:Unit) a=> (msgM ⟨b,f::fs⟩ ⟨b,f'::fs'⟩ a).map fun b=> (b,())) l a cap hll hs hg.kept hg.room (fun _ W1 W' row h hgr hr=> hstay W1 W' h row hgr hr) (fun _ _ _ b hb=> by cases hb) (fun b hb=> by cases hb)
  (fun i hi s W1 cs hI hgr hak=> by
   obtain ⟨b1,b2,b3⟩:=hl l[i] (ZM hi);obtain ⟨t',ht⟩:=zaO b _ (f::fs) b2;obtain ⟨ns',hns⟩:=zbT (jK (fun x=> yC b x (f'::fs'))) (l[i]).names (fun x hx=> zaO b x _ (b3 x hx));have hz:=hgr.size;have e1:=hI.2.2.1;obtain ⟨y0,y1⟩:=hI.2.2.2.cells
   have hm:=zm6 N m B u n0 k _ _ _ _ _ _ (fun W2=> Good B u n0 m b (f::fs) (.iface 123 (.agg #[.iface aty (.agg acs), .map fx])) W2/\Good B u N m b (f'::fs') (.iface 123 (.agg #[.iface aty' (.agg acs'), .map fx'])) W2)
    (zbs (zaT hBn hBm f fs W1 _ _ hI.1.at_) (fun W h=> h.1)) (zbs (zaT (Nat.le_trans hBn hn0) hBm f' fs' W1 _ _ hI.2.1.at_) (fun W h=> h.2))
    (fun Wa Wb row h hgr hr=> ⟨hst _ _ _ h.1 hgr (fun r e=> by rcases hr r e with h | h;exact .inl (by omega);exact .inr h),hst' _ _ _ h.2 hgr hr⟩)
    l[i] cs W1 hak b1 hI.1.kept hI.1.room (by omega) ⟨hI.1,hI.2.1⟩ t' ns' ht hns (by simp [World.cell?,e1]) (by simp [World.cell?,e1]) y0 y1
   rw [show msgM ⟨b,f::fs⟩ ⟨b,f'::fs'⟩ l[i]=some ⟨t',ns'⟩ from zgd ht hns];refine hm.mono ?_;rintro e' w' ⟨cs',rfl,h1,h2⟩;exact ⟨cs',rfl,h1,hstay W1 w' hI none (zj h2) (by simp),zj h2⟩) () ⟨hg,hg',h1,h2⟩
 rw [zd0] at hMJ;cases hR:zV (fun (_:Unit) a=> (msgM ⟨b,f::fs⟩ ⟨b,f'::fs'⟩ a).map fun b=> (b,())) () l with
 | none=> rw [hR] at hMJ;simp at hMJ
 | some y=>
  rw [hR] at hMJ hc;obtain ⟨y1,y2⟩:=y;simp only [Option.map_some,Option.some.injEq] at hMJ;subst hMJ;refine hc.mono ?_;rintro e w' ⟨v,rfl,hll',⟨a',cap',rfl,h⟩,_,hgr⟩;exact ⟨a',cap',by rw [hll'],⟨a',cap',by rw [hll'],h⟩,yy hgr⟩
theorem zh1 {B:Nat} {u:World} {m:Option Nat} {b:Base} (hBm:∀r,m=some r->B<=r) (hmb:m=none->b= .outside) (s:Nat) (hs:s + 1<=60) (hT:zap B u m b s) (hC:xq B u m b s):xq B u m b (s + 1):=by
 intro t hts hsm hbd hfn f fs av fv U r cs w hfs hbnd hat hg hbud;obtain ⟨op,tx,joins,defs,kids⟩:=t;have hpt:zY B u (.iface 191 (.agg cs.toArray)) (.def_ (.mk op tx joins defs kids)):=⟨cs,rfl,hat⟩;unfold zo at hat;obtain ⟨htz,_,_,_,rfl,⟨a0,p0,rfl,hl0,hx0⟩,⟨a1,p1,rfl,hl1,hx1⟩,⟨a2,p2,rfl,hl2,hx2⟩⟩:=hat;obtain ⟨aty,acs,fx,rfl,rfl,hfr,har⟩:=hg.values;obtain ⟨I,hI⟩:∃I,I=inside ⟨b,f::fs⟩ U (.def_ (.mk op tx joins defs kids)):=⟨_,rfl⟩;have hpC:∀e∈defs,Part.def_ e∈(Part.def_ (.mk op tx joins defs kids)).parts:=fun e he=> by simp only [Part.parts,List.mem_append,List.mem_map];exact .inl ⟨e,he,rfl⟩
 have hpT:∀e∈kids,Part.proc e∈(Part.def_ (.mk op tx joins defs kids)).parts:=fun e he=> by simp only [Part.parts,List.mem_append,List.mem_map];exact .inr ⟨e,he,rfl⟩
 have hsmall:=hsm (.def_ (.mk op tx joins defs kids)) (by rw [zv];simp);have hlE:joins.length<=1000:=by have:=hsmall.1;omega
 have hlC:defs.length<=1000:=by have:=hsmall.2.1;omega
 have hlT:kids.length<=1000:=by have:=hsmall.2.2;omega
 have hchan:∀e∈defs,∀x∈tsC e,xk I.1.frames x:=by
  intro e he x hx;rw [hI];refine zal b f fs U _ x (.inl ?_);rcases (zdB hfn).1 with h4 | h4
  ·exact hbnd x (zkT op tx joins defs kids h4 x (zic defs e he x hx))
  ·rw [h4] at he;simp at he
 have hBw:=hg.room;have hstW:=Good.stays (b:=b) (fs:=f::fs) (v:= .iface 123 (.agg #[.iface aty (.agg acs), .map fx])) (u:=u) hBw hBm;have hmlt:=hbud.lt;have hmn:∀r,m=some r->r < w.heap.size:=hmlt;obtain ⟨n0,hn0⟩:∃n,n=joins.length:=⟨_,rfl⟩;obtain ⟨n1,hn1⟩:∃n,n=defs.length:=⟨_,rfl⟩;obtain ⟨n2,hn2⟩:∃n,n=kids.length:=⟨_,rfl⟩
 obtain ⟨MJ,hMJ⟩:∃MJ,zau ⟨b,f::fs⟩ I.1 joins=some MJ:=by
  rw [zkb];refine zbT _ _ (fun j hj=> ?_);obtain ⟨t',ht⟩:=zaO b j.text (f::fs) (hbnd _ (List.mem_append_left _ (List.mem_map.2 ⟨j,hj,rfl⟩)))
  have hin:∀x∈j.names,xk I.1.frames x:=fun x hx=> by
   rw [hI];exact zal b f fs U _ x (.inr (List.mem_flatMap.2 ⟨j,hj,hx⟩))
  have hIb:I.1=⟨b,I.1.frames⟩:=by
   have:=zh6 b f fs U (.def_ (.mk op tx joins defs kids));rw [<-hI] at this;cases hh:I.1 with
   | mk b' fs'=> rw [hh] at this;simp only at this;rw [this]
  rw [hIb];obtain ⟨ns',hns⟩:=zbT (jK (fun x=> yC b x I.1.frames)) j.names (fun x hx=> zaO b x _ (hin x hx));exact ⟨_,zgd ht hns⟩
 have hmsg:∀(N:Nat) (f':Frame) (fs':List Frame) (aty':TypeId) (acs':Array Value) (fx':Option Nat) (W:World) (k:Nat),I.1=⟨b,f'::fs'⟩->w.heap.size<=N->N<=W.heap.size->Good B u w.heap.size m b (f::fs) (.iface 123 (.agg #[.iface aty (.agg acs), .map fx])) W->Good B u N m b (f'::fs') (.iface 123 (.agg #[.iface aty' (.agg acs'), .map fx'])) W->
   W.heap[w.heap.size]?=some (.cells #[.iface aty (.agg acs), .map fx] 123)->yZ k aty' acs' fx' W->
   Calls Tryz.prog 172 #[.slice a0 n0 p0, .func (.func 173) #[] #[.pointer (some ⟨w.heap.size,0,none⟩), .pointer (some ⟨k,0,none⟩)]] W fun e w'=> ∃a' cap',e= .returned (.slice a' n0 cap')/\SlAt w'.heap.size (.slice a' n0 cap') MJ.length (fun b' off=> zX w'.heap.size (blank W.heap.size w') b' off MJ)/\Below W.heap.size W w':=by
  intro N f' fs' aty' acs' fx' W k hi hwN hN hg1 hg2 hb1 hb2;rw [hn0];rw [hi] at hMJ;refine zj6 hBm w.heap.size k f fs aty acs fx f' fs' aty' acs' fx' joins hlE (fun j hj=> ⟨(zdB hfn).2 j hj,hbnd _ (List.mem_append_left _ (List.mem_map.2 ⟨j,hj,rfl⟩)),fun x hx=> ?_⟩) MJ hMJ a0 p0 hx0 W hBw hwN hN hg1 hg2 hb1 hb2;have:=zal b f fs U (.def_ (.mk op tx joins defs kids)) x (.inr (List.mem_flatMap.2 ⟨j,hj,hx⟩));rw [<-hI,hi] at this;exact this
 have hcls:∀(N:Nat) (f':Frame) (fs':List Frame) (aty':TypeId) (acs':Array Value) (fx':Option Nat) (W:World) (r':Nat),I.1=⟨b,f'::fs'⟩->fs'.length<=fs.length + 1->B<=N->N<=W.heap.size->Good B u N m b (f'::fs') (.iface 123 (.agg #[.iface aty' (.agg acs'), .map fx'])) W->Bud m (bcCs defs + r') I.2 W->
   Calls Tryz.prog 141 #[.slice a1 n1 p1, .func (.func 142) #[.agg #[.iface aty' (.agg acs'), .map fx']] #[]] W fun e w'=> OutE (jx I.1 I.2 defs) e (W.grownBy w' m) fun y=> ∃a' cap',e= .returned (.slice a' n1 cap')/\SlAt w'.heap.size (.slice a' n1 cap') y.1.length (fun b' off=> zr w'.heap.size (blank W.heap.size w') b' off y.1)/\
    Bud m r' y.2 w'/\W.grownBy w' m/\Good B u N m b (f'::fs') (.iface 123 (.agg #[.iface aty' (.agg acs'), .map fx'])) w':=by
  intro N f' fs' aty' acs' fx' W r' hi hfl hBN hN hgd hbd';have hch:=hchan;rw [hi] at hch ⊢;rw [hn1];exact zc9 hBN hBm hC f' fs' (by omega) _ _ defs (fun e he=> ⟨by have:=qi (hpC e he);omega,hsm.part (hpC e he),hbd.part (hpC e he),hfn.part (hpC e he),hch e he⟩) hlC a1 p1 hx1 I.2 r' W hgd hN hbd'
 have hkid:∀(N:Nat) (f':Frame) (fs':List Frame) (aty':TypeId) (acs':Array Value) (fx':Option Nat) (W:World) (U':Used) (r':Nat),I.1=⟨b,f'::fs'⟩->fs'.length<=fs.length + 1->B<=N->N<=W.heap.size->Good B u N m b (f'::fs') (.iface 123 (.agg #[.iface aty' (.agg acs'), .map fx'])) W->Bud m (bcTs kids + r') U' W->
   Calls Tryz.prog 105 #[.slice a2 n2 p2, .func (.func 87) #[.agg #[.iface aty' (.agg acs'), .map fx']] #[]] W fun e w'=> OutE (ju I.1 U' kids) e (W.grownBy w' m) fun y=> ∃a' cap',e= .returned (.slice a' n2 cap')/\SlAt w'.heap.size (.slice a' n2 cap') y.1.length (fun b' off=> zu w'.heap.size (blank W.heap.size w') b' off y.1)/\
    Bud m r' y.2 w'/\W.grownBy w' m/\Good B u N m b (f'::fs') (.iface 123 (.agg #[.iface aty' (.agg acs'), .map fx'])) w':=by
  intro N f' fs' aty' acs' fx' W U' r' hi hfl hBN hN hgd hbd';rw [hi,hn2];exact zef hBN hBm hT f' fs' (by omega) _ _ kids (fun e he=> ⟨by have:=qi (hpT e he);omega,hsm.part (hpT e he),hbd.part (hpT e he),hfn.part (hpT e he)⟩) hlT a2 p2 hx2 U' r' W hgd hN hbd'
 have htxt:∀W,Good B u w.heap.size m b (f::fs) (.iface 123 (.agg #[.iface aty (.agg acs), .map fx])) W->Calls Tryz.prog 138 #[.agg #[.iface aty (.agg acs), .map fx], .string tx] W fun e' w'=> OutE (yS ⟨b,f::fs⟩ tx) e' (Below W.heap.size W w') fun t=> e'= .returned (.string t)/\t.size<=maxLen/\Below W.heap.size W w':=fun W hgW=> by
  rw [zcF];exact zcD _ _ _ _ (zaT hBw hBm f fs W _ _ hgW.at_) (fun W W' g b=> hstW.below g b) tx htz W hgW
 obtain ⟨W0,hW0⟩:∃W0,W0=(((w.alloc (.cells #[.iface aty (.agg acs), .map fx] 123)).alloc (.cells #[.int .i64 op, .string tx, .slice a0 n0 p0, .slice a1 n1 p1, .slice a2 n2 p2] 130)).alloc (.cells #[.int .i64 0, .string ⟨#[]⟩, .slice none 0 0, .slice none 0 0, .slice none 0 0] 130)):=⟨_,rfl⟩;have hb0:Below w.heap.size w W0:=by rw [hW0];exact ((ZQ w _).alloc (by simp) _).alloc (by simp;omega) _
 have hz:W0.heap.size=w.heap.size + 3:=by rw [hW0];simp
 have bx0:yI w.heap.size 130 zc5 aty acs fx (.int .i64 op) (.string tx) (.slice a0 n0 p0) (.slice a1 n1 p1) (.slice a2 n2 p2) W0:=by
  refine ⟨?_,?_,?_⟩
  ·rw [hW0,ZO _ _ _ (by simp;omega),ZO _ _ _ (by simp)];exact ZN w _
  ·rw [hW0,ZO _ _ _ (by simp)]
   have:=ZN (w.alloc (.cells #[.iface aty (.agg acs), .map fx] 123)) (.cells #[.int .i64 op, .string tx, .slice a0 n0 p0, .slice a1 n1 p1, .slice a2 n2 p2] 130);rwa [World.size_alloc] at this
  ·rw [hW0]
   have:=ZN ((w.alloc (.cells #[.iface aty (.agg acs), .map fx] 123)).alloc (.cells #[.int .i64 op, .string tx, .slice a0 n0 p0, .slice a1 n1 p1, .slice a2 n2 p2] 130)) (.cells #[.int .i64 0, .string ⟨#[]⟩, .slice none 0 0, .slice none 0 0, .slice none 0 0] 130);rwa [World.size_alloc,World.size_alloc] at this
 have hg0:=hstW.below hg hb0
 have hbud0:Bud m ((zR (.def_ (.mk op tx joins defs kids))).length + (bcCs defs + (bcTs kids + r))) U W0:=by
  have:=hbud.kept (zj hb0:w.grownBy W0 none) (by simp);rw [bcC] at this;exact this.less (by omega)
 have h137:=zeZ hBw hBm hmb f fs (by omega) (.iface aty (.agg acs)) (.map fx) (.def_ (.mk op tx joins defs kids)) (.iface 191 (.agg #[.int .i64 op, .string tx, .slice a0 n0 p0, .slice a1 n1 p1, .slice a2 n2 p2])) (by omega) hsm hbd (by rw [hn0,hn1,hn2];exact hpt) W0 hg0 U _ hbud0;rw [<-hI] at h137;have hce:=zlj ⟨b,f::fs⟩ U op tx joins defs kids I hI;have HN:=ZH (And.intro hn0 (And.intro hn1 hn2));rw [<-hn0,<-hn1,<-hn2];obtain ⟨RT,hRT⟩:∃R,R=xJ ⟨b,f::fs⟩ U (.mk op tx joins defs kids):=⟨_,rfl⟩;rw [<-hRT];rw [<-hRT] at hce;rw [hMJ] at hce;have HCE:=ZH hce;have HW:=ZH hW0;have HZ:=ZH hz;have HI:=ZH hI;have hw0:w.heap.size + 3<=W0.heap.size:=by omega
 have hmf:∀(fn:Fn) (first cap:Array Value) (w:World),(Instr.makeFunc fn first cap).run Tryz.prog w= .ok (.func fn first cap) w:=fun _ _ _ _=> rfl;have hgw0:w.grownBy W0 m:=zk (qx w m) (zj hb0) (by simp);clear hce hRT hn0 hn1 hn2 hW0 hI hz hx0 hx1 hx2 hpt hpC hpT hbnd hMJ hsmall hchan hT hC hsm hbd hfn hbud hbud0 hts hb0 hlE hlC hlT hfr har hl0 hl1 hl2 hg;have hg00:=hg0;clear hg0;cases hTx:yS ⟨b,f::fs⟩ tx with
 | none=>
  have hR:RT=none:=by rw [HCE.out,hTx]
  rw [hR];rw [hTx] at htxt;go_enter Tryz.func142,Tryz.ntmps142
  go_wp2_with (first
   | (go_at_call 137;rw [<-HW.out];refine h137.mono ?_;clear h137;rintro e w1 ⟨ay',ac',fx',f',fs',rfl,hI1,hfl,hg1,hb1,hgr1⟩;have HI1:=ZH hI1;clear hI1;have hz1:=hgr1.size;have bx1:=bx0.kept hgr1 hmn;have hal:w1.grownBy (w1.alloc (.cells #[.iface ay' (.agg ac'), .map fx'] 123)) none:=ZW _ _ none;have bx2:=bx1.kept hal (by simp);have in2:yZ w1.heap.size ay' ac' fx' (w1.alloc (.cells #[.iface ay' (.agg ac'), .map fx'] 123)):=ZN w1 _;have hg2:=hstW _ _ _ (hstW _ _ _ (hg00) hgr1 (fun r e=> .inr e)) hal (by simp);have st1:=Good.stays (b:=b) (fs:=f'::fs') (v:= .iface 123 (.agg #[.iface ay' (.agg ac'), .map fx'])) (u:=u) hg1.room hBm;have hi2:=st1 _ _ _ hg1 hal (by simp);have hb2:=hb1.kept hal (by simp);have gw1:=zk (zk hgw0 hgr1 (fun r e=> .inr e)) hal (by simp);have hz2:(w1.alloc (.cells #[.iface ay' (.agg ac'), .map fx'] 123)).heap.size=w1.heap.size + 1:=World.size_alloc _ _;have HZ2:=ZH hz2;have hz2':w1.heap.size + 1<=(w1.alloc (.cells #[.iface ay' (.agg ac'), .map fx'] 123)).heap.size:=(by omega);clear hz2;obtain ⟨q0,q1,q2,q3,q4,q5,q6,q7⟩:=bx2.cells;obtain ⟨y0,y1⟩:=in2.cells)
   | (go_at_call 138;refine (htxt _ hg2).mono ?_;rintro e w3 ⟨rfl,hp⟩))
  simp only [bodyPost];exact ⟨by trivial,rfl,zk gw1 (zj hp) (by simp)⟩
 | some t'=>
  rw [hTx] at htxt;cases hCs:jx I.1 I.2 defs with
  | none=>
   have hR:RT=none:=by rw [HCE.out,hTx];simp only [hCs]
   rw [hR];go_enter Tryz.func142,Tryz.ntmps142
   go_wp2_with (first
    | (go_at_call 137;rw [<-HW.out];refine h137.mono ?_;clear h137;rintro e w1 ⟨ay',ac',fx',f',fs',rfl,hI1,hfl,hg1,hb1,hgr1⟩;have HI1:=ZH hI1;clear hI1;have hz1:=hgr1.size;have bx1:=bx0.kept hgr1 hmn;have hal:w1.grownBy (w1.alloc (.cells #[.iface ay' (.agg ac'), .map fx'] 123)) none:=ZW _ _ none;have bx2:=bx1.kept hal (by simp);have in2:yZ w1.heap.size ay' ac' fx' (w1.alloc (.cells #[.iface ay' (.agg ac'), .map fx'] 123)):=ZN w1 _;have hg2:=hstW _ _ _ (hstW _ _ _ (hg00) hgr1 (fun r e=> .inr e)) hal (by simp);have st1:=Good.stays (b:=b) (fs:=f'::fs') (v:= .iface 123 (.agg #[.iface ay' (.agg ac'), .map fx'])) (u:=u) hg1.room hBm;have hi2:=st1 _ _ _ hg1 hal (by simp);have hb2:=hb1.kept hal (by simp);have gw1:=zk (zk hgw0 hgr1 (fun r e=> .inr e)) hal (by simp);have hz2:(w1.alloc (.cells #[.iface ay' (.agg ac'), .map fx'] 123)).heap.size=w1.heap.size + 1:=World.size_alloc _ _;have HZ2:=ZH hz2;have hz2':w1.heap.size + 1<=(w1.alloc (.cells #[.iface ay' (.agg ac'), .map fx'] 123)).heap.size:=(by omega);clear hz2;obtain ⟨q0,q1,q2,q3,q4,q5,q6,q7⟩:=bx2.cells;obtain ⟨y0,y1⟩:=in2.cells)
    | (go_at_call 138;refine (htxt _ hg2).mono ?_;clear htxt;rintro e w3 ⟨rfl,htz',hb3⟩;have hz3:=hb3.size;have g3:(w1.alloc (.cells #[.iface ay' (.agg ac'), .map fx'] 123)).grownBy w3 none:=zj hb3;have bx3:=bx2.kept g3 (by simp);have in3:=in2.kept g3 (by simp);obtain ⟨t0,t1,t2,t3,t4,t5,t6,t7⟩:=bx3.cells;obtain ⟨x0,x1⟩:=in3.cells;have bx3':=bx3.set1 (.string t');have in3':=in3.set (w.heap.size + 1) 1 (.string t') (by omega);have hs3:=(hstW _ _ _ hg2 g3 (by simp)).set (o:=1) bx3.box2 (by omega) (.string t');have hi3:=(st1 _ _ _ hi2 g3 (by simp)).set (o:=1) bx3.box2 (by omega) (.string t');have hb3':=(hb2.kept g3 (by simp)).set (o:=1) bx3.box2 (.string t');have gw3:=zk (zk gw1 g3 (by simp)) (zH w3 ⟨w.heap.size + 1,1,none⟩ (.string t')) (fun r e=> .inl (by have:=ZJ e;simp only at this;omega)))
    | (go_at_call 172;refine (hmsg _ f' fs' ay' ac' fx' _ _ HI1.out (by omega) (by simp;omega) hs3 hi3 bx3'.box1 in3').mono ?_;clear hmsg;rintro e w4 ⟨b0,k0,rfl,hsl4,hb4⟩;have hz4:=hb4.size;rw [World.size_setCell] at hz4;have g4:(w3.setCell ⟨w.heap.size + 1,1,none⟩ (.string t')).grownBy w4 none:=zj hb4;have bx4:=bx3'.kept g4 (by simp);have in4:=in3'.kept g4 (by simp);obtain ⟨o0,o1,o2,o3,o4,o5,o6,o7⟩:=bx4.cells;obtain ⟨z0,z1⟩:=in4.cells;have bx4':=bx4.set2 (.slice b0 n0 k0);have in4':=in4.set (w.heap.size + 1) 2 (.slice b0 n0 k0) (by omega);have hi4:=(st1 _ _ _ hi3 g4 (by simp)).set (o:=2) bx4.box2 (by omega) (.slice b0 n0 k0);have hb4':=(hb3'.kept g4 (by simp)).set (o:=2) bx4.box2 (.slice b0 n0 k0);have gw4:=zk (zk gw3 g4 (by simp)) (zH w4 ⟨w.heap.size + 1,2,none⟩ (.slice b0 n0 k0)) (fun r e=> .inl (by have:=ZJ e;simp only at this;omega));have la4:qj (w.heap.size + 3) w4 (w4.setCell ⟨w.heap.size + 1,2,none⟩ (.slice b0 n0 k0)):=(qj.refl _ _).set _ _ (by simp))
    | (go_at_call 141;have hcl:=hcls _ f' fs' ay' ac' fx' _ _ HI1.out hfl hg1.room (by simp;omega) hi4 hb4';rw [hCs] at hcl;refine hcl.mono ?_;rintro e w5 ⟨rfl,hp⟩))
   simp only [bodyPost];exact ⟨by trivial,rfl,zk gw4 hp (fun r e=> .inr e)⟩
  | some y=>
   cases hTs:ju I.1 y.2 kids with
   | none=>
    have hR:RT=none:=by rw [HCE.out,hTx];simp only [hCs,hTs]
    rw [hR];go_enter Tryz.func142,Tryz.ntmps142
    go_wp2_with (first
     | (go_at_call 137;rw [<-HW.out];refine h137.mono ?_;clear h137;rintro e w1 ⟨ay',ac',fx',f',fs',rfl,hI1,hfl,hg1,hb1,hgr1⟩;have HI1:=ZH hI1;clear hI1;have hz1:=hgr1.size;have bx1:=bx0.kept hgr1 hmn;have hal:w1.grownBy (w1.alloc (.cells #[.iface ay' (.agg ac'), .map fx'] 123)) none:=ZW _ _ none;have bx2:=bx1.kept hal (by simp);have in2:yZ w1.heap.size ay' ac' fx' (w1.alloc (.cells #[.iface ay' (.agg ac'), .map fx'] 123)):=ZN w1 _;have hg2:=hstW _ _ _ (hstW _ _ _ (hg00) hgr1 (fun r e=> .inr e)) hal (by simp);have st1:=Good.stays (b:=b) (fs:=f'::fs') (v:= .iface 123 (.agg #[.iface ay' (.agg ac'), .map fx'])) (u:=u) hg1.room hBm;have hi2:=st1 _ _ _ hg1 hal (by simp);have hb2:=hb1.kept hal (by simp);have gw1:=zk (zk hgw0 hgr1 (fun r e=> .inr e)) hal (by simp);have hz2:(w1.alloc (.cells #[.iface ay' (.agg ac'), .map fx'] 123)).heap.size=w1.heap.size + 1:=World.size_alloc _ _;have HZ2:=ZH hz2;have hz2':w1.heap.size + 1<=(w1.alloc (.cells #[.iface ay' (.agg ac'), .map fx'] 123)).heap.size:=(by omega);clear hz2;obtain ⟨q0,q1,q2,q3,q4,q5,q6,q7⟩:=bx2.cells;obtain ⟨y0,y1⟩:=in2.cells)
     | (go_at_call 138;refine (htxt _ hg2).mono ?_;clear htxt;rintro e w3 ⟨rfl,htz',hb3⟩;have hz3:=hb3.size;have g3:(w1.alloc (.cells #[.iface ay' (.agg ac'), .map fx'] 123)).grownBy w3 none:=zj hb3;have bx3:=bx2.kept g3 (by simp);have in3:=in2.kept g3 (by simp);obtain ⟨t0,t1,t2,t3,t4,t5,t6,t7⟩:=bx3.cells;obtain ⟨x0,x1⟩:=in3.cells;have bx3':=bx3.set1 (.string t');have in3':=in3.set (w.heap.size + 1) 1 (.string t') (by omega);have hs3:=(hstW _ _ _ hg2 g3 (by simp)).set (o:=1) bx3.box2 (by omega) (.string t');have hi3:=(st1 _ _ _ hi2 g3 (by simp)).set (o:=1) bx3.box2 (by omega) (.string t');have hb3':=(hb2.kept g3 (by simp)).set (o:=1) bx3.box2 (.string t');have gw3:=zk (zk gw1 g3 (by simp)) (zH w3 ⟨w.heap.size + 1,1,none⟩ (.string t')) (fun r e=> .inl (by have:=ZJ e;simp only at this;omega)))
     | (go_at_call 172;refine (hmsg _ f' fs' ay' ac' fx' _ _ HI1.out (by omega) (by simp;omega) hs3 hi3 bx3'.box1 in3').mono ?_;clear hmsg;rintro e w4 ⟨b0,k0,rfl,hsl4,hb4⟩;have hz4:=hb4.size;rw [World.size_setCell] at hz4;have g4:(w3.setCell ⟨w.heap.size + 1,1,none⟩ (.string t')).grownBy w4 none:=zj hb4;have bx4:=bx3'.kept g4 (by simp);have in4:=in3'.kept g4 (by simp);obtain ⟨o0,o1,o2,o3,o4,o5,o6,o7⟩:=bx4.cells;obtain ⟨z0,z1⟩:=in4.cells;have bx4':=bx4.set2 (.slice b0 n0 k0);have in4':=in4.set (w.heap.size + 1) 2 (.slice b0 n0 k0) (by omega);have hi4:=(st1 _ _ _ hi3 g4 (by simp)).set (o:=2) bx4.box2 (by omega) (.slice b0 n0 k0);have hb4':=(hb3'.kept g4 (by simp)).set (o:=2) bx4.box2 (.slice b0 n0 k0);have gw4:=zk (zk gw3 g4 (by simp)) (zH w4 ⟨w.heap.size + 1,2,none⟩ (.slice b0 n0 k0)) (fun r e=> .inl (by have:=ZJ e;simp only at this;omega));have la4:qj (w.heap.size + 3) w4 (w4.setCell ⟨w.heap.size + 1,2,none⟩ (.slice b0 n0 k0)):=(qj.refl _ _).set _ _ (by simp))
     | (go_at_call 141;have hcl:=hcls _ f' fs' ay' ac' fx' _ _ HI1.out hfl hg1.room (by simp;omega) hi4 hb4';rw [hCs] at hcl;refine hcl.mono ?_;clear hcl hcls;rintro e w5 ⟨b1,k1,rfl,hsl5,hb5,g5,hi5⟩;have hz5:=g5.size;rw [World.size_setCell] at hz5;have bx5:=bx4'.kept g5 hmn;have in5:=in4'.kept g5 (fun r e=> by have:=hmn r e;omega);obtain ⟨u0,u1,u2,u3,u4,u5,u6,u7⟩:=bx5.cells;obtain ⟨v0,v1⟩:=in5.cells;have bx5':=bx5.set3 (.slice b1 n1 k1);have in5':=in5.set (w.heap.size + 1) 3 (.slice b1 n1 k1) (by omega);have hi5':=hi5.set (o:=3) bx5.box2 (by omega) (.slice b1 n1 k1);have hb5':=hb5.set (o:=3) bx5.box2 (.slice b1 n1 k1);have gw5:=zk (zk gw4 g5 (fun r e=> .inr e)) (zH w5 ⟨w.heap.size + 1,3,none⟩ (.slice b1 n1 k1)) (fun r e=> .inl (by have:=ZJ e;simp only at this;omega));have l45:=la4.trans (qj.grown g5 (fun r e=> by have:=hmn r e;omega));have la5:qj (w.heap.size + 3) w5 (w5.setCell ⟨w.heap.size + 1,3,none⟩ (.slice b1 n1 k1)):=(qj.refl _ _).set _ _ (by simp))
     | (go_at_call 105;have hkl:=hkid _ f' fs' ay' ac' fx' _ _ _ HI1.out hfl hg1.room (by simp;omega) hi5' hb5';rw [hTs] at hkl;refine hkl.mono ?_;rintro e w6 ⟨rfl,hp⟩))
    simp only [bodyPost];exact ⟨by trivial,rfl,zk gw5 hp (fun r e=> .inr e)⟩
   | some z=>
    have hR:RT=some (.mk op t' MJ y.1 z.1,z.2):=by rw [HCE.out,hTx];simp only [hCs,hTs]
    rw [hR];go_enter Tryz.func142,Tryz.ntmps142
    go_wp2_with (first
     | (go_at_call 137;rw [<-HW.out];refine h137.mono ?_;clear h137;rintro e w1 ⟨ay',ac',fx',f',fs',rfl,hI1,hfl,hg1,hb1,hgr1⟩;have HI1:=ZH hI1;clear hI1;have hz1:=hgr1.size;have bx1:=bx0.kept hgr1 hmn;have hal:w1.grownBy (w1.alloc (.cells #[.iface ay' (.agg ac'), .map fx'] 123)) none:=ZW _ _ none;have bx2:=bx1.kept hal (by simp);have in2:yZ w1.heap.size ay' ac' fx' (w1.alloc (.cells #[.iface ay' (.agg ac'), .map fx'] 123)):=ZN w1 _;have hg2:=hstW _ _ _ (hstW _ _ _ (hg00) hgr1 (fun r e=> .inr e)) hal (by simp);have st1:=Good.stays (b:=b) (fs:=f'::fs') (v:= .iface 123 (.agg #[.iface ay' (.agg ac'), .map fx'])) (u:=u) hg1.room hBm;have hi2:=st1 _ _ _ hg1 hal (by simp);have hb2:=hb1.kept hal (by simp);have gw1:=zk (zk hgw0 hgr1 (fun r e=> .inr e)) hal (by simp);have hz2:(w1.alloc (.cells #[.iface ay' (.agg ac'), .map fx'] 123)).heap.size=w1.heap.size + 1:=World.size_alloc _ _;have HZ2:=ZH hz2;have hz2':w1.heap.size + 1<=(w1.alloc (.cells #[.iface ay' (.agg ac'), .map fx'] 123)).heap.size:=(by omega);clear hz2;obtain ⟨q0,q1,q2,q3,q4,q5,q6,q7⟩:=bx2.cells;obtain ⟨y0,y1⟩:=in2.cells)
     | (go_at_call 138;refine (htxt _ hg2).mono ?_;clear htxt;rintro e w3 ⟨rfl,htz',hb3⟩;have hz3:=hb3.size;have g3:(w1.alloc (.cells #[.iface ay' (.agg ac'), .map fx'] 123)).grownBy w3 none:=zj hb3;have bx3:=bx2.kept g3 (by simp);have in3:=in2.kept g3 (by simp);obtain ⟨t0,t1,t2,t3,t4,t5,t6,t7⟩:=bx3.cells;obtain ⟨x0,x1⟩:=in3.cells;have bx3':=bx3.set1 (.string t');have in3':=in3.set (w.heap.size + 1) 1 (.string t') (by omega);have hs3:=(hstW _ _ _ hg2 g3 (by simp)).set (o:=1) bx3.box2 (by omega) (.string t');have hi3:=(st1 _ _ _ hi2 g3 (by simp)).set (o:=1) bx3.box2 (by omega) (.string t');have hb3':=(hb2.kept g3 (by simp)).set (o:=1) bx3.box2 (.string t');have gw3:=zk (zk gw1 g3 (by simp)) (zH w3 ⟨w.heap.size + 1,1,none⟩ (.string t')) (fun r e=> .inl (by have:=ZJ e;simp only at this;omega)))
     | (go_at_call 172;refine (hmsg _ f' fs' ay' ac' fx' _ _ HI1.out (by omega) (by simp;omega) hs3 hi3 bx3'.box1 in3').mono ?_;clear hmsg;rintro e w4 ⟨b0,k0,rfl,hsl4,hb4⟩;have hz4:=hb4.size;rw [World.size_setCell] at hz4;have g4:(w3.setCell ⟨w.heap.size + 1,1,none⟩ (.string t')).grownBy w4 none:=zj hb4;have bx4:=bx3'.kept g4 (by simp);have in4:=in3'.kept g4 (by simp);obtain ⟨o0,o1,o2,o3,o4,o5,o6,o7⟩:=bx4.cells;obtain ⟨z0,z1⟩:=in4.cells;have bx4':=bx4.set2 (.slice b0 n0 k0);have in4':=in4.set (w.heap.size + 1) 2 (.slice b0 n0 k0) (by omega);have hi4:=(st1 _ _ _ hi3 g4 (by simp)).set (o:=2) bx4.box2 (by omega) (.slice b0 n0 k0);have hb4':=(hb3'.kept g4 (by simp)).set (o:=2) bx4.box2 (.slice b0 n0 k0);have gw4:=zk (zk gw3 g4 (by simp)) (zH w4 ⟨w.heap.size + 1,2,none⟩ (.slice b0 n0 k0)) (fun r e=> .inl (by have:=ZJ e;simp only at this;omega));have la4:qj (w.heap.size + 3) w4 (w4.setCell ⟨w.heap.size + 1,2,none⟩ (.slice b0 n0 k0)):=(qj.refl _ _).set _ _ (by simp))
     | (go_at_call 141;have hcl:=hcls _ f' fs' ay' ac' fx' _ _ HI1.out hfl hg1.room (by simp;omega) hi4 hb4';rw [hCs] at hcl;refine hcl.mono ?_;clear hcl hcls;rintro e w5 ⟨b1,k1,rfl,hsl5,hb5,g5,hi5⟩;have hz5:=g5.size;rw [World.size_setCell] at hz5;have bx5:=bx4'.kept g5 hmn;have in5:=in4'.kept g5 (fun r e=> by have:=hmn r e;omega);obtain ⟨u0,u1,u2,u3,u4,u5,u6,u7⟩:=bx5.cells;obtain ⟨v0,v1⟩:=in5.cells;have bx5':=bx5.set3 (.slice b1 n1 k1);have in5':=in5.set (w.heap.size + 1) 3 (.slice b1 n1 k1) (by omega);have hi5':=hi5.set (o:=3) bx5.box2 (by omega) (.slice b1 n1 k1);have hb5':=hb5.set (o:=3) bx5.box2 (.slice b1 n1 k1);have gw5:=zk (zk gw4 g5 (fun r e=> .inr e)) (zH w5 ⟨w.heap.size + 1,3,none⟩ (.slice b1 n1 k1)) (fun r e=> .inl (by have:=ZJ e;simp only at this;omega));have l45:=la4.trans (qj.grown g5 (fun r e=> by have:=hmn r e;omega));have la5:qj (w.heap.size + 3) w5 (w5.setCell ⟨w.heap.size + 1,3,none⟩ (.slice b1 n1 k1)):=(qj.refl _ _).set _ _ (by simp))
     | (go_at_call 105;have hkl:=hkid _ f' fs' ay' ac' fx' _ _ _ HI1.out hfl hg1.room (by simp;omega) hi5' hb5';rw [hTs] at hkl;refine hkl.mono ?_;clear hkl hkid;rintro e w6 ⟨b2,k2,rfl,hsl6,hb6,g6,hi6⟩;have hz6:=g6.size;rw [World.size_setCell] at hz6;have bx6:=bx5'.kept g6 hmn;obtain ⟨s0,s1,s2,s3,s4,s5,s6,s7⟩:=bx6.cells;obtain ⟨r0,r1,r2,r3,r4,r5⟩:=bx6.zeros;have gw6:=zk gw5 g6 (fun r e=> .inr e);have l56:=la5.trans (qj.grown g6 (fun r e=> by have:=hmn r e;omega))))
    simp [bodyPost,results,Tryz.results142,go_sem,r0,r1,r2,r3,r4];have hsB:∀(W:World) (c o:Nat) (x:Value),w.heap.size<=c->Bud m r z.2 W->Bud m r z.2 (W.setCell ⟨c,o,none⟩ x):=fun W c o x hc h=> h.kept (zH W ⟨c,o,none⟩ x) (fun y e hmy=> by have:=hmn y hmy;have:=ZJ e;simp only at this;omega);have hsG:∀(W:World) (c o:Nat) (x:Value),w.heap.size<=c->w.grownBy W m->w.grownBy (W.setCell ⟨c,o,none⟩ x) m:=fun W c o x hc h=> zk h (zH W ⟨c,o,none⟩ x) (fun y e=> .inl (by have:=ZJ e;simp only at this;omega));have hsL:∀(W W':World) (c o:Nat) (x:Value),c < w.heap.size + 3->qj (w.heap.size + 3) W W'->qj (w.heap.size + 3) W (W'.setCell ⟨c,o,none⟩ x):=fun W W' c o x hc h=> h.set ⟨c,o,none⟩ x hc;have lF:=hsL _ _ (w.heap.size + 1 + 1) 4 (.slice b2 n2 k2) (by omega) (hsL _ _ (w.heap.size + 1 + 1) 3 (.slice b1 n1 k1) (by omega) (hsL _ _ (w.heap.size + 1 + 1) 2 (.slice b0 n0 k0) (by omega) (hsL _ _ (w.heap.size + 1 + 1) 1 (.string t') (by omega) (hsL _ _ (w.heap.size + 1 + 1) 0 (.int .i64 op) (by omega) (hsL _ _ (w.heap.size + 1) 4 (.slice b2 n2 k2) (by omega) (qj.refl (w.heap.size + 3) w6))))));have l5F:=l56.trans lF;have l4F:=l45.trans l5F
    refine ⟨⟨htz',_,_,_,rfl,hsl4.imp (by omega) (fun b' off hb hp=> zX.keep (l4F.kept (by rw [World.size_setCell];omega) (by rw [World.size_setCell];omega) (ZL _)) (by omega) _ b' off hb hp),
     hsl5.imp (by omega) (fun b' off hb hp=> zr.keep (l5F.kept (by rw [World.size_setCell];omega) (by rw [World.size_setCell];omega) (ZL _)) (by omega) _ b' off hb hp),
     hsl6.imp (ZL _) (fun b' off hb hp=> zu.keep (lF.kept (by rw [World.size_setCell];omega) (by rw [World.size_setCell];omega) (ZL _)) (ZL _) _ b' off hb hp)⟩,?_,?_⟩
    ·exact hsB _ _ _ _ (by omega) (hsB _ _ _ _ (by omega) (hsB _ _ _ _ (by omega) (hsB _ _ _ _ (by omega) (hsB _ _ _ _ (by omega) (hsB _ _ _ _ (by omega) hb6)))))
    ·exact hsG _ _ _ _ (by omega) (hsG _ _ _ _ (by omega) (hsG _ _ _ _ (by omega) (hsG _ _ _ _ (by omega) (hsG _ _ _ _ (by omega) (hsG _ _ _ _ (by omega) gw6)))))
theorem yD (p:Part):1<=p.size:=by rw [Part.size,zv];simp
theorem ziL {B:Nat} {u:World} {m:Option Nat} {b:Base} (hBm:∀r,m=some r->B<=r) (hmb:m=none->b= .outside):∀s,s<=60->zap B u m b s/\xq B u m b s:=by
 intro s
 induction s with
 | zero=>
  intro _;refine ⟨fun t ht=> ?_,fun t ht=> ?_⟩
  ·have:=yD (.proc t);omega
  ·have:=yD (.def_ t);omega
 | succ s ih=>
  intro hs;obtain ⟨h1,h2⟩:=ih (by omega);exact ⟨zkt hBm hmb s hs h1 h2,zh1 hBm hmb s hs h1 h2⟩
theorem xg {p:Part} (h:zT p):Fine p:=by
 intro q hq;rw [qJ 0 1] at hq;obtain ⟨y,hy,rfl⟩:=List.mem_map.1 hq;exact (h.2 y hy).1
def jp:Frame:=fun _=> none
theorem zat {B:Nat} {u:World} {m:Option Nat} {b:Base} (hBm:∀r,m=some r->B<=r) (hmb:m=none->b= .outside) (t:Term) (hf:zT (.proc t)) (av:Value) (w:World) (hav:zeg B u m b av) (hu:zh B u w) (hB:B<=w.heap.size)
  (U:Used) (r:Nat) (cs:List Value) (hat:ze B u cs t) (hbud:Bud m (bcT t + r) U w):
  Calls Tryz.prog 87 #[.agg #[av, .map none], .agg cs.toArray] w fun e w'=> OutE (yl ⟨b, [jp]⟩ U t) e (w.grownBy w' m) fun y=> ∃cs',e= .returned (.agg cs'.toArray)/\ze w'.heap.size (blank w.heap.size w') cs' y.1/\Bud m r y.2 w'/\w.grownBy w' m:=
 (ziL hBm hmb 60 (ZL _)).1 t hf.1 hf.allSmall hf.allBind (xg hf) jp [] av (.map none) U r cs w (by simp) hat
  ⟨hu,hB,av, .map none,rfl, .inl ⟨rfl,fun _=> rfl⟩,hav⟩ hbud
theorem zea (r:Nat) (hr:r<=4000) (w:World):Bud none r (fun _=> false) w:=⟨⟨0,by omega,fun b hb=> by cases hb⟩,0,by omega, [],fun k hk=> (by cases hk),by simp⟩
end
end Go.Proofs.YtjmlaeofjjhfmaaGreat
