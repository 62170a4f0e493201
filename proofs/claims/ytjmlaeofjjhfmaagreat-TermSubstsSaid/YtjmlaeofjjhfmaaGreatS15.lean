/- Lemmas. -/
import Derived.Test.YtjmlaeofjjhfmaaGreatS14
import Derived.Test.YtjmlaeofjjhfmaaGreatS13
import Derived.Deep.RegionHeld3
import Derived.Test.YtjmlaeofjjhfmaaGreatS12
set_option linter.unusedVariables false
set_option linter.unusedSimpArgs false
set_option maxRecDepth 10000
set_option maxHeartbeats 16000000
namespace Go.Proofs.YtjmlaeofjjhfmaaGreat
section
open Go.RowKit Go.Shelf Go.Maps Go.WideMaps
theorem zhT (b:Base) (v:Env) (p:Part):(b.renames v p).length<=(zR p).length:=by
 cases b with
 | outside=> simp [Base.renames]
 | anew=> simp [Base.renames]
 | putting y e=>
  simp only [Base.renames]
  split
  ·simp
  ·exact List.length_filter_le _ _
def zaU (n:Nat) (aty:TypeId) (acs:Array Value) (fx:Option Nat) (W:World):Prop:=
 W.heap[n]?=some (.cells #[.iface aty (.agg acs), .map fx] 123)/\W.heap[n + 1]?=some (.cells #[.nilIface, .map none] 123)
theorem zaU.kept {n:Nat} {aty:TypeId} {acs:Array Value} {fx:Option Nat} {W W':World} {row:Option Nat} (h:zaU n aty acs fx W) (g:W.grownBy W' row) (hr:∀r,row=some r->r≠n/\r≠n + 1):zaU n aty acs fx W':=
 ⟨(g.block n (ZG h.1).1 (fun e=> (hr n e.symm).1 rfl)).trans h.1,(g.block (n + 1) (ZG h.2).1 (fun e=> (hr (n + 1) e.symm).2 rfl)).trans h.2⟩
theorem zaU.cells {n:Nat} {aty:TypeId} {acs:Array Value} {fx:Option Nat} {W:World} (h:zaU n aty acs fx W):W.cell? ⟨n,0,none⟩=some (.iface aty (.agg acs))/\W.cell? ⟨n,1,none⟩=some (.map fx)/\W.cell? ⟨n + 1,0,none⟩=some .nilIface/\W.cell? ⟨n + 1,1,none⟩=some (.map none)/\∀o,W.frozen? ⟨n + 1,o,none⟩=false:=by
 obtain ⟨q3,q4⟩:=h;exact ⟨by simp [World.cell?,q3],by simp [World.cell?,q3],by simp [World.cell?,q4],by simp [World.cell?,q4],fun o=> by simp [World.frozen?,q4]⟩
theorem zhA {B N:Nat} {u:World} {m:Option Nat} {b:Base} (hBN:B<=N) (hm:∀r,m=some r->B<=r) (f:Frame) (fs:List Frame) (hfs:fs.length < 340) (av fv:Value)
  (p:Part) (pv:Value) (hps:p.size<=60) (hsm:p.allSmall) (hbd:p.allBind) (hp:zY B u pv p) (w:World) (hg:Good B u N m b (f::fs) (.iface 123 (.agg #[av,fv])) w) (hsome:zR p≠ [])
  (hmb:m=none->b= .outside) (nU:Nat) (U:Used) (hS:jE w m nU U) (hnU:nU<=500000000) (kc:Nat) (hC:Cov U kc) (hk:kc + (zR p).length<=4900) (S:Frame×Used) (hSd:S=(b.renames ⟨b,f::fs⟩ p).foldl xC ((zR p).foldl zak (fun _=> none),U)):
  Calls Tryz.prog 137 #[.agg #[av,fv],pv] w fun e w'=> ∃mp,e= .returned (.agg #[.iface 123 (.agg #[av,fv]), .map (some mp)])/\mp < w'.heap.size/\m≠some mp/\OwnF w' mp 1000000 S.1/\
   jE w' m (nU + (zR p).length) S.2/\Cov S.2 (kc + (zR p).length)/\w.grownBy w' m:=by
 obtain ⟨aty,acs,fx,rfl,rfl,hfr,har⟩:=hg.values;obtain ⟨gr,rcv,hrm,hrc,hren⟩:=zm3 hBN hm f fs hfs aty acs (.map fx) p pv hps hsm hbd hp w har;have hch:=fun W=> zcS (B:=B) (N:=N) (u:=u) (m:=m) (b:=b) W fs 347 w aty acs (by omega) har;have hc223:∀args W,(callFunc 223 args).run Tryz.prog W= .ok (.enter 223 args) W:=enters_of Tryz.func223 (by kernel_rfl) rfl;have hrl:=zhT b ⟨b,f::fs⟩ p;obtain ⟨g,pc,ty,rfl,hmbd,hcb,hbs⟩:=zaj B u p pv (hsm p (by rw [zv];simp)) (hbd p (by rw [zv];simp)) hp;obtain ⟨W0,hW0⟩:∃W0,W0=((w.alloc (.cells #[.iface aty (.agg acs), .map fx] 123)).alloc (.cells #[.nilIface, .map none] 123)):=⟨_,rfl⟩;have hb0:Below w.heap.size w W0:=by rw [hW0];exact (ZQ w _).alloc (by simp) _
 have hz:W0.heap.size=w.heap.size + 2:=by rw [hW0];simp
 have k0:zaU w.heap.size aty acs fx W0:=by
  refine ⟨?_,?_⟩
  ·rw [hW0,ZO _ _ _ (by simp)];exact ZN w _
  ·rw [hW0];have:=ZN (w.alloc (.cells #[.iface aty (.agg acs), .map fx] 123)) (.cells #[.nilIface, .map none] 123);rwa [World.size_alloc] at this
 have hstay:=Good.stays (b:=b) (fs:=f::fs) (v:= .iface 123 (.agg #[.iface aty (.agg acs), .map fx])) (u:=u) hBN hm;have hg0:=hstay.below hg hb0;have hbc:=hbs W0 hg0.kept hg0.room;have hmlt:∀r,m=some r->r < w.heap.size:=fun r hr=> (hS r hr).lt;obtain ⟨L,hL⟩:∃L,L=zR p:=⟨_,rfl⟩;obtain ⟨R,hR⟩:∃R,R=b.renames ⟨b,f::fs⟩ p:=⟨_,rfl⟩;rw [<-hL] at hbc hrl hSd hsome hk ⊢;rw [<-hR] at hrl hSd hren;have hLn:L.length≠0:=fun h=> hsome (List.eq_nil_of_length_eq_zero h)
 have hRm:∀k,k < R.length->∃bu,m=some bu:=by
  intro k hk;cases hmn:m with
  | some bu=> exact ⟨bu,rfl⟩
  | none=> rw [hmb hmn] at hR;simp only [Base.renames] at hR;rw [hR] at hk;simp at hk
 have hmm:=@run_makeMap Tryz.prog;have HW:=ZH hW0;have HZ:=ZH hz;have HL:=ZH hL;have HR:=ZH hR;clear hW0 hbs hL hR hz hsome;go_enter Tryz.func137,Tryz.ntmps137;go_wp2_with (rw [<-HW.out];refine hbc.mono ?_;clear hbc;rintro e w1 ⟨r,rfl,⟨ra,rc,rfl,_,hLz,_,hLc⟩,hb1⟩);have hb1w:=hb0.trans (hb1.mono (by have:=HZ.out;omega));have k1:=k0.kept (zj hb1) (by simp);have hsz1:w.heap.size + 2<=w1.heap.size:=by have:=hb1.size;have:=HZ.out;omega
 have HO:=ZH (OwnF.made w1);have b0':Below w1.heap.size w1 (w1.alloc (.map #[] 0)):=ZQ w1 _;have hg1:=hstay.below hg hb1w;have hS1:jE w1 m nU U:=hS.kept (zj hb1w) (by simp);clear hb1 k0 hg0 hb0 hg hS;go_wp2_with fail
 go_loopw [20] (fun i wr=> ∃(k:Nat),k<=L.length/\i= .int .i64 k/\OwnF wr w1.heap.size k ((L.take k).foldl zak (fun _=> none))/\Below w1.heap.size w1 wr) (fun i _=> L.length - (intOf i).toNat)
 case atStart=> exact ⟨0,by omega,rfl,by simpa using HO.out,b0'⟩
 case round=>
  obtain ⟨k,hk',rfl,hO,hb⟩:=hrel;by_cases hlt:k < L.length
  ·rcases hLc with h0 | ⟨bb,off,rfl,hbB,hc⟩
   ·subst h0;simp at hlt
   have hwr:=hb.size;have ck:=(hb.cell (p:=⟨bb,off + k,none⟩) hbB).trans (hc k hlt);have hxk:=hLz _ (ZM hlt);have hft:=ze1 zak L (fun _=> none) k hlt;obtain ⟨x,hx⟩:∃x,x=L[k]:=⟨_,rfl⟩;rw [<-hx] at ck hxk hft;have HFT:=ZH hft;obtain ⟨w',hr,o2,g2⟩:=hO.put (by unfold maxLen;omega) hxk hxk;have hbw:Below w1.heap.size w1 w':=hb.grown g2 hwr (fun r e=> by have:=ZJ e;omega);have O2:=ZH o2;clear hft hx hc hO o2 g2;go_wp2;refine ⟨⟨k + 1,by omega,by go_num,by rw [HFT.out];exact O2.out,hbw⟩,by simp [intOf];omega⟩
  ·obtain rfl:k=L.length:=by omega
   rw [List.take_length] at hO;have hwr:=hb.size;have hgr:=hstay.below hg1 hb;have hrc':=hren wr hgr;have kr:=k1.kept (zj hb) (by simp);have hSr:jE wr m nU U:=hS1.kept (zj hb) (by simp);obtain ⟨f1,hf1⟩:∃f1,f1=L.foldl zak (fun _=> none):=⟨_,rfl⟩;rw [<-hf1] at hO hSd;have HF1:=ZH hf1;obtain ⟨c0,c1,c2,c3,cf⟩:=kr.cells;obtain ⟨wm,hwm⟩:∃wm:World,wm=wr:=⟨_,rfl⟩;subst hwm;clear hLc hLz hren hf1 hg1 hS1 HO b0';go_wp2_with (refine hrc'.mono ?_;clear hrc';rintro e w3 ⟨r,rfl,⟨ra2,rc2,rfl,_,hRz,_,hRc⟩,hb3⟩);have hW3:w.grownBy w3 m:=zk (zk (qx w m) (zj (hb1w.trans (hb.mono (by omega)))) (by simp)) (zj hb3) (by simp);have kr3:=kr.kept (zj hb3) (by simp);have hO3:=hO.later hb3;have hS3:jE w3 m nU U:=hSr.kept (zj hb3) (by simp);have hw3:=hb3.size;have hmp:∀r,m=some r->r≠w1.heap.size:=fun r hr=> by have:=hmlt r hr;omega
   clear hb3 kr hO hSr hb hgr c0 c1 c2 c3 cf hstay
   go_loopw [34] (fun i wq=> ∃(k:Nat),k<=R.length/\i= .int .i64 k/\OwnF wq w1.heap.size (L.length + k) ((R.take k).foldl xC (f1,U)).1/\jE wq m (nU + k) ((R.take k).foldl xC (f1,U)).2/\
    Cov ((R.take k).foldl xC (f1,U)).2 (kc + k)/\yr w3 wq/\w.grownBy wq m/\zaU w.heap.size aty acs fx wq) (fun i _=> R.length - (intOf i).toNat)
   case atStart=> exact ⟨0,by omega,rfl,by simpa using hO3,by simpa using hS3,by simpa using hC,yr.refl _,hW3,kr3⟩
   case round=>
    obtain ⟨k,hk',rfl,hO,hSt,hCv,hkc,hgw,hbx⟩:=hrel;obtain ⟨c0,c1,c2,c3,cf⟩:=hbx.cells;by_cases hlt:k < R.length
    ·obtain ⟨bu,hbu⟩:=hRm k hlt
     rcases hRc with h0 | ⟨bb,off,rfl,hbB,hc⟩
     ·subst h0;simp at hlt
     have ck:=hkc.2 _ _ _ (hc k hlt);have hxk:=hRz _ (ZM hlt);have hft:=ze1 xC R (f1,U) k hlt;obtain ⟨x,hx⟩:∃x,x=R[k]:=⟨_,rfl⟩;rw [<-hx] at ck hxk hft;obtain ⟨FU,hFU⟩:∃FU,FU=(R.take k).foldl xC (f1,U):=⟨_,rfl⟩;rw [<-hFU] at hO hSt hCv hft;have HFT:=ZH hft;have hS1:=hSt bu hbu;have hcl:=zju bu (nU + k) FU.2 wr hS1 (by unfold maxLen;omega) (kc + k) hCv (by omega);have hcm:=hch;rw [hbu] at hcm;have hmpb:=hmp bu hbu;have hbw:=hmlt bu hbu;have hcs:=zhg FU.2;obtain ⟨CU,hCU⟩:∃c,c=choose FU.2:=⟨_,rfl⟩;rw [<-hCU] at hcl hcs;have HCU:=ZH hCU
     have hj:∀w5,SetF w5 bu (nU + k + 1) (xl FU.2 CU)->wr.grownBy w5 (some bu)->∃w6,(Instr.mapUpdate 121 (.map (some w1.heap.size)) (.string x) (.string (mkB CU))).run Tryz.prog w5= .ok () w6/\OwnF w6 w1.heap.size (L.length + (k + 1)) (upd FU.1 x (mkB CU))/\
       jE w6 m (nU + (k + 1)) (xl FU.2 CU)/\yr w3 w6/\w.grownBy w6 m/\zaU w.heap.size aty acs fx w6:=by
      intro w5 s5 g5;have o5:=hO.kept g5 (fun e=> hmpb (ZJ e).symm);obtain ⟨w6,r6,o6,g6⟩:=o5.put (by unfold maxLen;omega) hxk hcs;have s6:=s5.kept g6 (fun e=> hmpb (ZJ e));refine ⟨w6,r6,o6,fun b' hb'=> ?_,(hkc.turned hS1 g5).turnedF o5 g6,?_,?_⟩
      ·rw [hbu] at hb';obtain rfl:=ZJ hb';exact s6
      ·exact zk (zk hgw g5 (fun r e=> .inr (by rw [hbu,<-e]))) g6 (fun r e=> .inl (by have:=ZJ e;omega))
      ·exact (hbx.kept g5 (fun r e=> by have:=ZJ e;omega)).kept g6 (fun r e=> by have:=ZJ e;omega)
     clear hft hx hc hRz hO hSt hFU hCU hkc hgw hbx hS1;go_wp2_with (go_at_call 223;refine hcl.mono ?_;clear hcl;rintro e w5 ⟨rfl,s5,g5⟩;obtain ⟨w6,r6,o6,st6,ck6,gw6,bx6⟩:=hj w5 s5 g5;have H1:=ZH o6;have H2:=ZH st6;have H3:=ZH ck6;have H4:=ZH gw6;clear hj o6 st6 ck6 gw6 s5 g5);go_roundw
     case rel=> exact ⟨k + 1,by omega,by go_num,by rw [HFT.out];unfold xC;rw [<-HCU.out];exact H1.out,by rw [HFT.out];unfold xC;rw [<-HCU.out];exact H2.out,by rw [HFT.out];unfold xC;exact hCv.plus _,H3.out,H4.out,bx6⟩
     case measure=> simp [intOf];omega
    ·obtain rfl:k=R.length:=by omega
     rw [List.take_length,<-hSd] at hO hSt hCv;have g1:=zH;have H1:=ZH hO;have H2:=ZH hSt;have H3:=ZH hgw;clear hO hSt hgw hkc hbx;go_wp2_with fail;simp [bodyPost,results,Tryz.results137,go_sem,c2,c3];have e1:=g1 wr ⟨w.heap.size + 1,0,none⟩ (.iface 123 (.agg #[.iface aty (.agg acs), .map fx]));have e2:=g1 (wr.setCell ⟨w.heap.size + 1,0,none⟩ (.iface 123 (.agg #[.iface aty (.agg acs), .map fx]))) ⟨w.heap.size + 1,1,none⟩ (.map (some w1.heap.size));have hlt1:=H1.out.lt;refine ⟨hlt1,fun e=> hmp _ e rfl,?_,?_,hCv.mono (by omega),?_⟩
     ·exact ((H1.out.kept e1 (fun e=> by have:=ZJ e;simp only at this;omega)).kept e2 (fun e=> by have:=ZJ e;simp only at this;omega)).mono (by omega)
     ·intro b' hb'
      have hb'':=hmlt b' hb';exact ((((H2.out b' hb').kept e1 (fun e=> by have:=ZJ e;simp only at this;omega)).kept e2 (fun e=> by have:=ZJ e;simp only at this;omega))).mono (by omega)
     ·exact zk (zk H3.out e1 (fun r e=> .inl (by have:=ZJ e;simp only at this;omega))) e2 (fun r e=> .inl (by have:=ZJ e;simp only at this;omega))
def xk (fs:List Frame) (x:ByteArray):Prop:=fs.any (fun f=> (f (zb x)).isSome)=true
theorem zck (b:Base) (x:ByteArray):∀fs,xk fs x->∃n,yC b x fs=yq n
 | [],h=> by simp [xk] at h
 | f::fs,h=> by
  unfold xk at h;rw [List.any_cons,Bool.or_eq_true] at h;rw [yC];cases hf:f (zb x) with
  | some n=> exact ⟨n,rfl⟩
  | none=>
   rw [hf] at h;rcases h with h | h
   ·simp at h
   ·exact zck b x fs h
theorem zaO (b:Base) (x:ByteArray) (fs:List Frame) (h:xk fs x):∃t,jK (fun x=> yC b x fs) x=some t:=by
 obtain ⟨n,hn⟩:=zck b x fs h;unfold jK
 split
 ·exact ⟨x,rfl⟩
 ·refine ⟨n,?_⟩
  simp only [hn]
  rfl
theorem zbT {A C:Type} (F:A->Option C):∀l:List A,(∀a∈l,∃c,F a=some c)->∃l',zbR F l=some l'
 | [],_=> ⟨[],rfl⟩
 | a::l,h=> by
  obtain ⟨c,hc⟩:=h a (by simp);obtain ⟨l',hl'⟩:=zbT F l (fun x hx=> h x (by simp [hx]));unfold zbR at hl' ⊢;rw [zV,hc];simp only [Option.map_some];cases hs:zV (fun (_:Unit) a=> (F a).map fun b=> (b,())) () l with
  | none=> rw [hs] at hl';simp at hl'
  | some y=> exact ⟨c::y.1,rfl⟩
theorem zd7 {f:Frame} {k v:ByteArray} {x:List UInt8} (h:(f x).isSome=true∨x=zb k):(upd f k v x).isSome=true:=by
 unfold upd
 split
 ·rfl
 ·rename_i hn
  rcases h with h | h
  ·exact h
  ·simp [h] at hn
theorem ze6:∀(l:List ByteArray) (f:Frame) (x:List UInt8),((f x).isSome=true∨∃y∈l,x=zb y)->((l.foldl zak f) x).isSome=true
 | [],f,x,h=> by
  rcases h with h | ⟨y,hy,_⟩
  ·exact h
  ·simp at hy
 | a::l,f,x,h=> by
  rw [List.foldl_cons];refine ze6 l _ x ?_;rcases h with h | ⟨y,hy,e⟩
  ·exact .inl (zd7 (.inl h))
  ·rcases List.mem_cons.1 hy with rfl | hy
   ·exact .inl (zd7 (.inr e))
   ·exact .inr ⟨y,hy,e⟩
theorem zfc:∀(l:List ByteArray) (s:Frame×Used) (x:List UInt8),(s.1 x).isSome=true->((l.foldl xC s).1 x).isSome=true
 | [],_,_,h=> h
 | a::l,s,x,h=> by
  rw [List.foldl_cons];exact zfc l _ x (zd7 (.inl h))
theorem zal (b:Base) (f:Frame) (fs:List Frame) (U:Used) (p:Part) (x:ByteArray) (h:xk (f::fs) x∨x∈zR p):xk (inside ⟨b,f::fs⟩ U p).1.frames x:=by
 unfold inside;by_cases hn:zR p= []
 ·rw [if_pos hn]
  rcases h with h | h
  ·exact h
  ·rw [hn] at h;simp at h
 ·rw [if_neg hn]
  unfold xk;simp only;rw [List.any_cons,Bool.or_eq_true];rcases h with h | h
  ·exact .inr h
  ·exact .inl (zfc _ _ _ (ze6 _ _ _ (.inr ⟨x,h,rfl⟩)))
theorem zh6 (b:Base) (f:Frame) (fs:List Frame) (U:Used) (p:Part):(inside ⟨b,f::fs⟩ U p).1.base=b:=by
 unfold inside;split <;> rfl
theorem zeu:∀(xs l:List ByteArray) (x:ByteArray),(x∈l∨x∈xs)->x∈qp l xs
 | [],l,x,h=> by
  rcases h with h | h
  ·exact h
  ·simp at h
 | y::xs,l,x,h=> by
  have e:qp l (y::xs)=qp (qU l y) xs:=by simp [qp]
  rw [e];refine zeu xs _ x ?_
  have hst:∀z,z∈l->z∈qU l y:=by
   intro z hz;unfold qU;split
   ·exact hz
   ·exact List.mem_append_left _ hz
  rcases h with h | h
  ·exact .inl (hst x h)
  ·rcases List.mem_cons.1 h with rfl | h
   ·left
    unfold qU
    split
    ·rename_i hm
     unfold zF at hm;obtain ⟨y,hy,he⟩:=List.any_eq_true.1 hm;obtain ⟨z,hz,rfl⟩:=List.mem_map.1 hy;have e1:zb z=zb x:=by simpa using he
     have e2:z=x:=ByteArray.ext (Array.toList_inj.1 e1);exact e2▸hz
    ·simp
   ·exact .inr h
def tsL (d:List zg):List ByteArray:=zl (zm d)
def tsC (c:zg):List ByteArray:=c.joins.map (·.text) ++ zl (yk c)
theorem zic:∀(d:List zg) (c:zg),c∈d->∀x,x∈tsC c->x∈tsL d:=by
 intro d c hc x hx;unfold tsC at hx;unfold tsL zm zl;rw [List.flatMap_cons,List.mem_append];rcases List.mem_append.1 hx with h | h
 ·left
  unfold zS;exact List.mem_flatMap.2 ⟨c,hc,h⟩
 ·right
  unfold zl at h;obtain ⟨g,hg,hxg⟩:=List.mem_flatMap.1 h;refine List.mem_flatMap.2 ⟨g,?_,hxg⟩;clear hx h hxg
  induction d with
  | nil=> simp at hc
  | cons a d ih=>
   rw [zO,List.mem_append];rcases List.mem_cons.1 hc with rfl | hc
   ·exact .inl hg
   ·exact .inr (ih hc)
theorem zkT (f:Int) (t:ByteArray) (j:List Msg) (d:List zg) (k:List Term) (hf:f=2) (x:ByteArray) (hx:x∈tsL d):x∈tsC (.mk f t j d k):=by
 unfold tsC;refine List.mem_append_right _ ?_;rw [yk,if_pos hf];exact hx
mutual
def bcT:Term->Nat
 | .mk o t a d k=> (zR (.proc (.mk o t a d k))).length + bcCs d + bcTs k
def bcC:zg->Nat
 | .mk f t j d k=> (zR (.def_ (.mk f t j d k))).length + bcCs d + bcTs k
def bcTs:List Term->Nat
 | []=> 0
 | a::l=> bcT a + bcTs l
def bcCs:List zg->Nat
 | []=> 0
 | a::l=> bcC a + bcCs l
end
theorem zke (l:List Term) (k:Nat) (h:k < l.length):bcTs (l.drop k)=bcT l[k] + bcTs (l.drop (k + 1)):=by
 rw [List.drop_eq_getElem_cons h,bcTs]
theorem zk3 (l:List zg) (k:Nat) (h:k < l.length):bcCs (l.drop k)=bcC l[k] + bcCs (l.drop (k + 1)):=by
 rw [List.drop_eq_getElem_cons h,bcCs]
def Bud (m:Option Nat) (r:Nat) (U:Used) (W:World):Prop:=(∃n,n + r<=500000000/\jE W m n U)/\∃c,c + r<=4900/\Cov U c
theorem Bud.kept {m row:Option Nat} {r:Nat} {U:Used} {W W':World} (h:Bud m r U W) (g:W.grownBy W' row) (hne:∀x,row=some x->m≠some x):Bud m r U W':=by
 obtain ⟨⟨n,h1,h2⟩,h3⟩:=h;exact ⟨⟨n,h1,h2.kept g hne⟩,h3⟩
theorem Bud.noCells {m:Option Nat} {r:Nat} {U:Used} {W:World} (h:Bud m r U W):xD m W:=by
 obtain ⟨⟨n,_,h2⟩,_⟩:=h;exact h2.noCells
theorem Bud.lt {m:Option Nat} {r:Nat} {U:Used} {W:World} (h:Bud m r U W):∀b,m=some b->b < W.heap.size:=fun b hb=> (h.noCells b hb).1
theorem Bud.less {m:Option Nat} {r r':Nat} {U:Used} {W:World} (h:Bud m r U W) (hr:r'<=r):Bud m r' U W:=by
 obtain ⟨⟨n,h1,h2⟩,c,h3,h4⟩:=h;exact ⟨⟨n,by omega,h2⟩,c,by omega,h4⟩
theorem Good.mono {B N N':Nat} {u:World} {m:Option Nat} {b:Base} {fs:List Frame} {v:Value} {W:World} (h:Good B u N m b fs v W) (hN:N<=N'):Good B u N' m b fs v W:=⟨h.kept,h.room,h.at_.mono hN⟩
theorem FrAt.set {w:World} {N:Nat} {m:Option Nat} {v:Value} {f:Frame} (h:FrAt w N m v f) {c o:Nat} {cs:Array Value} {ty:TypeId} {fz:Nat×Nat} (hc:w.heap[c]?=some (.cells cs ty fz)) (x:Value):FrAt (w.setCell ⟨c,o,none⟩ x) N m v f:=by
 rcases h with h | ⟨b,h1,h2,h3,h4⟩
 ·exact .inl h
 ·refine .inr ⟨b,h1,h2,h3,h4.kept (zH w ⟨c,o,none⟩ x) (fun e=> ?_)⟩
  have:b=c:=ZJ e;subst this;obtain ⟨D,⟨es,clock,hb,_⟩,_⟩:=h4;rw [hb] at hc;cases hc
theorem qQ.set {B N:Nat} {u:World} {m:Option Nat} {b:Base} {c o:Nat} {cs:Array Value} {ty:TypeId} {fz:Nat×Nat} {w:World} (hc:w.heap[c]?=some (.cells cs ty fz)) (x:Value):∀{fs:List Frame} {v:Value},qQ B u N m b fs w v->qQ B u N m b fs (w.setCell ⟨c,o,none⟩ x) v
 | [],_,h=> h
 | _::_,_,⟨av,fv,h1,h2,h3⟩=> ⟨av,fv,h1,h2.set hc x,h3.set hc x⟩
theorem Good.set {B N:Nat} {u:World} {m:Option Nat} {b:Base} {fs:List Frame} {v:Value} {w:World} (h:Good B u N m b fs v w) {c o:Nat} {cs:Array Value} {ty:TypeId} {fz:Nat×Nat} (hc:w.heap[c]?=some (.cells cs ty fz)) (hBc:B<=c) (x:Value):Good B u N m b fs v (w.setCell ⟨c,o,none⟩ x):=by
 refine ⟨fun b' o' v' hb hv=> ?_,by have:=h.room;simpa using this,h.at_.set hc x⟩;refine (ZB (w:=w) ?_).trans (h.kept b' o' v' hb hv);rw [ZC _ _ _ _ (by simp;omega)]
theorem Bud.set {m:Option Nat} {r:Nat} {U:Used} {w:World} (h:Bud m r U w) {c o:Nat} {cs:Array Value} {ty:TypeId} {fz:Nat×Nat} (hc:w.heap[c]?=some (.cells cs ty fz)) (x:Value):Bud m r U (w.setCell ⟨c,o,none⟩ x):=by
 refine h.kept (zH w ⟨c,o,none⟩ x) (fun y e hm=> ?_);have:c=y:=ZJ e;subst this;obtain ⟨⟨n,_,h2⟩,_⟩:=h;obtain ⟨D,⟨es,clock,hb,_⟩,_⟩:=h2 c hm;rw [hb] at hc;cases hc
def Fine (p:Part):Prop:=∀q∈(zw 0 p).map (·.1),q.shaped=true
theorem Fine.part {p q:Part} (h:Fine p) (hq:q∈p.parts):Fine q:=by
 intro x hx;rw [qJ 0 1] at hx;refine h x ?_;rw [zv];obtain ⟨y,hy,rfl⟩:=List.mem_map.1 hx;exact List.mem_map.2 ⟨y,List.mem_cons_of_mem _ (jh hq hy),rfl⟩
theorem Fine.self {p:Part} (h:Fine p):p.shaped=true:=h p (by rw [zv];simp)
theorem zj9 {o:Int} {t:ByteArray} {a:List Exp} {d:List zg} {k:List Term} (h:Fine (.proc (.mk o t a d k))):o=4∨d= []:=by
 have h1:=h.self;simp only [Part.shaped,yg,Bool.or_eq_true,Bool.and_eq_true,beq_iff_eq,decide_eq_true_eq,List.length_eq_zero_iff] at h1;rcases h1 with ((((h1 | h1) | h1) | h1) | h1) | h1
 ·exact .inr h1.1.2
 ·exact .inr h1.1.2
 ·exact .inr h1.1.2
 ·exact .inl h1.1.1.1.1.1
 ·exact .inr h1.1.2
 ·exact .inr h1.1.2
theorem zdB {f:Int} {t:ByteArray} {j:List Msg} {d:List zg} {k:List Term} (h:Fine (.def_ (.mk f t j d k))):(f=2∨d= [])/\∀x∈j,x.names.length<=1000:=by
 have h1:=h.self;simp only [Part.shaped,yB,Bool.or_eq_true,Bool.and_eq_true,beq_iff_eq,decide_eq_true_eq,List.length_eq_zero_iff] at h1;rcases h1 with h1 | h1
 ·refine ⟨.inr h1.1.2,fun x hx=> ?_⟩
  have hj:=h1.1.1.2;unfold qH at hj;simp only [Bool.and_eq_true,decide_eq_true_eq,List.all_eq_true] at hj;have:=hj.1.1.2 x hx;omega
 ·refine ⟨.inl h1.1.1.1.1,fun x hx=> ?_⟩
  have hj:=h1.1.1.2;rw [hj] at hx;simp at hx
theorem qQ.fit {B N:Nat} {u:World} {m:Option Nat} {b:Base} {w:World}:∀{fs:List Frame} {v:Value},qQ B u N m b fs w v->qQ B u w.heap.size m b fs w v
 | [],_,h=> h
 | _::_,_,⟨av,fv,h1,h2,h3⟩=> by
  refine ⟨av,fv,h1,?_,h3.fit⟩;rcases h2 with h2 | ⟨c,a1,a2,a3,a4⟩
  ·exact .inl h2
  ·exact .inr ⟨c,a1,a4.lt,a3,a4⟩
theorem Good.fit {B N:Nat} {u:World} {m:Option Nat} {b:Base} {fs:List Frame} {v:Value} {w:World} (h:Good B u N m b fs v w):Good B u w.heap.size m b fs v w:=⟨h.kept,h.room,h.at_.fit⟩
theorem zeZ {B N:Nat} {u:World} {m:Option Nat} {b:Base} (hBN:B<=N) (hm:∀r,m=some r->B<=r) (hmb:m=none->b= .outside) (f:Frame) (fs:List Frame) (hfs:fs.length < 340) (av fv:Value)
  (p:Part) (pv:Value) (hps:p.size<=60) (hsm:p.allSmall) (hbd:p.allBind) (hp:zY B u pv p) (w:World) (hg:Good B u N m b (f::fs) (.iface 123 (.agg #[av,fv])) w)
  (U:Used) (r:Nat) (hB:Bud m ((zR p).length + r) U w):
  Calls Tryz.prog 137 #[.agg #[av,fv],pv] w fun e w'=> ∃(aty:TypeId) (acs:Array Value) (fx:Option Nat) (f':Frame) (fs':List Frame),e= .returned (.agg #[.iface aty (.agg acs), .map fx])/\(inside ⟨b,f::fs⟩ U p).1=⟨b,f'::fs'⟩/\fs'.length<=fs.length + 1/\
   Good B u w'.heap.size m b (f'::fs') (.iface 123 (.agg #[.iface aty (.agg acs), .map fx])) w'/\Bud m r (inside ⟨b,f::fs⟩ U p).2 w'/\w.grownBy w' m:=by
 obtain ⟨aty,acs,fx,e1,e2,hfr,har⟩:=hg.values;obtain ⟨⟨nU,hn,hS⟩,kc,hk,hC⟩:=id hB;by_cases hn0:zR p= []
 ·refine (zhP hBN hm f fs av fv p pv hsm hbd hp w hg hn0).mono ?_
  rintro e w' ⟨rfl,hb⟩;have hg':=(Good.stays hBN hm).below hg hb;refine ⟨aty,acs,fx,f,fs,by rw [e1,e2],by unfold inside;rw [if_pos hn0],by omega,?_,?_,?_⟩
  ·rw [<-e1,<-e2]
   exact hg'.fit
  ·have e3:(inside ⟨b,f::fs⟩ U p).2=U:=by unfold inside;rw [if_pos hn0]
   rw [e3];exact (hB.less (by omega)).kept (zj hb) (by simp)
  ·exact zk (qx w m) (zj hb) (by simp)
 ·refine (zhA hBN hm f fs hfs av fv p pv hps hsm hbd hp w hg hn0 hmb nU U hS (by omega) kc hC (by omega) _ rfl).mono ?_
  rintro e w' ⟨mp,rfl,h1,h2,h3,h4,h5,h6⟩
  have e3:inside ⟨b,f::fs⟩ U p=(⟨b,((b.renames ⟨b,f::fs⟩ p).foldl xC ((zR p).foldl zak (fun _=> none),U)).1::f::fs⟩,((b.renames ⟨b,f::fs⟩ p).foldl xC ((zR p).foldl zak (fun _=> none),U)).2):=by
   unfold inside;rw [if_neg hn0]
  have hg':=Good.stays hBN hm w w' m hg h6 (fun x hx=> .inr hx);rw [e3];refine ⟨123,#[av,fv],some mp,_,_,rfl,rfl,by simp,?_,⟨⟨_,by omega,h4⟩,_,by omega,h5⟩,h6⟩;refine ⟨hg'.kept,hg'.room, .iface 123 (.agg #[av,fv]), .map (some mp),rfl, .inr ⟨mp,rfl,h1,h2,h3⟩,hg'.fit.at_⟩
theorem Tryz.results173:Tryz.f173.results=#[.cell 4 144]:=by kernel_rfl
def zfA (w:World) (b:Nat):Prop:=w.heap[b]?=some (.cells #[.string ⟨#[]⟩, .slice none 0 0] 144)
theorem zfA.cells {w:World} {b:Nat} (h:zfA w b):w.cell? ⟨b,0,none⟩=some (.string ⟨#[]⟩)/\w.cell? ⟨b,1,none⟩=some (.slice none 0 0)/\∀o,w.frozen? ⟨b,o,none⟩=false:=by
 unfold zfA at h;exact ⟨by simp [World.cell?,h],by simp [World.cell?,h],fun o=> by simp [World.frozen?,h]⟩
theorem zm6 (N:Nat) (m:Option Nat) (B:Nat) (u:World) (p1 p2:Nat) (av fv av' fv':Value) (T T':ByteArray->Exp) (good:World->Prop) (h1:zah (.agg #[av,fv]) T good) (h2:zah (.agg #[av',fv']) T' good) (hst:zcC N m good)
  (j:Msg) (cs:List Value) (w:World) (hj:yK B u cs j) (hjl:j.names.length<=1000) (hu:zh B u w) (hB:B<=w.heap.size) (hN:N<=w.heap.size) (hg:good w)
  (t':ByteArray) (l':List ByteArray) (hT:jK T j.text=some t') (hM:zbR (jK T') j.names=some l')
  (q0:w.cell? ⟨p1,0,none⟩=some av) (q1:w.cell? ⟨p1,1,none⟩=some fv) (q2:w.cell? ⟨p2,0,none⟩=some av') (q3:w.cell? ⟨p2,1,none⟩=some fv'):
  Calls Tryz.prog 173 #[.agg cs.toArray, .pointer (some ⟨p1,0,none⟩), .pointer (some ⟨p2,0,none⟩)] w fun e' w'=> ∃cs',e'= .returned (.agg cs'.toArray)/\yK w'.heap.size (blank w.heap.size w') cs' ⟨t',l'⟩/\Below w.heap.size w w':=by
 obtain ⟨htz,v,rfl,hss⟩:=hj;obtain ⟨a,c,rfl,_⟩:=id hss;obtain ⟨t,ns⟩:=j;simp only at htz hss hjl hT hM ⊢;obtain ⟨k,hk⟩:∃k,k=ns.length:=⟨_,rfl⟩;rw [<-hk] at hss ⊢;have HK:=ZH hk;obtain ⟨W0,hW0⟩:∃W0,W0=((w.alloc (.cells #[.string t, .slice a k c] 144)).alloc (.cells #[.string ⟨#[]⟩, .slice none 0 0] 144)):=⟨_,rfl⟩;have hb0:Below w.heap.size w W0:=by rw [hW0];exact (ZQ w _).alloc (by simp) _
 have hz:W0.heap.size=w.heap.size + 2:=by rw [hW0];simp
 have k3:W0.heap[w.heap.size]?=some (.cells #[.string t, .slice a k c] 144):=by
  rw [hW0,ZO _ _ _ (by simp)];exact ZN w _
 have k4:W0.heap[w.heap.size + 1]?=some (.cells #[.string ⟨#[]⟩, .slice none 0 0] 144):=by
  rw [hW0];have:=ZN (w.alloc (.cells #[.string t, .slice a k c] 144)) (.cells #[.string ⟨#[]⟩, .slice none 0 0] 144);rwa [World.size_alloc] at this
 have HW:=ZH hW0;obtain ⟨G,hG⟩:∃G:World->Prop,G=fun W=> Below W0.heap.size W0 W:=⟨_,rfl⟩;have g0:G W0.drew:=by rw [hG];exact (ZF _ _).drew
 have hread:∀W,G W->W.cell? ⟨p1,0,none⟩=some av/\W.cell? ⟨p1,1,none⟩=some fv/\W.cell? ⟨p2,0,none⟩=some av'/\W.cell? ⟨p2,1,none⟩=some fv'/\W.cell? ⟨w.heap.size,0,none⟩=some (.string t)/\W.cell? ⟨w.heap.size,1,none⟩=some (.slice a k c)/\
   W.cell? ⟨w.heap.size + 1,0,none⟩=some (.string ⟨#[]⟩)/\W.cell? ⟨w.heap.size + 1,1,none⟩=some (.slice none 0 0)/\∀o,W.frozen? ⟨w.heap.size + 1,o,none⟩=false:=fun W h=> by
  rw [hG] at h;have e1:=(h.block w.heap.size (by omega)).trans k3;have e2:=(h.block (w.heap.size + 1) (by omega)).trans k4;have hbW:=hb0.trans (h.mono (by omega))
  exact ⟨(hbW.cell (p:=⟨p1,0,none⟩) (zD q0)).trans q0,(hbW.cell (p:=⟨p1,1,none⟩) (zD q1)).trans q1,(hbW.cell (p:=⟨p2,0,none⟩) (zD q2)).trans q2,(hbW.cell (p:=⟨p2,1,none⟩) (zD q3)).trans q3,
   by simp [World.cell?,e1],by simp [World.cell?,e1],by simp [World.cell?,e2],by simp [World.cell?,e2],fun o=> by simp [World.frozen?,e2]⟩
 have htx:∀W,G W->Calls Tryz.prog 138 #[.agg #[av,fv], .string t] W fun e' w'=> e'= .returned (.string t')/\t'.size<=maxLen/\G w':=fun W h=> by
  rw [hG] at h ⊢;refine (zcD av fv T good h1 (fun W W' g b=> hst.below g b) t htz W (hst.below hg (hb0.trans (h.mono (by omega))))).mono ?_;intro e' w' hh;rw [hT] at hh;obtain ⟨a1,a2,a3⟩:=hh;exact ⟨a1,a2,h.trans (a3.mono h.size)⟩
 have hea:∀W,G W->Calls Tryz.prog 174 #[.slice a k c, .func (.func 138) #[.agg #[av',fv']] #[]] W fun e' w'=> ∃a' k' c',e'= .returned (.slice a' k' c')/\zx w'.heap.size (blank W0.heap.size w') (.slice a' k' c') l'/\G w':=fun W h=> by
  rw [hG] at h ⊢;have hbW:=hb0.trans (h.mono (by omega));have hws:=h.size;refine (zlU (.agg #[av',fv']) N m good hst (jK T') (fun x W1 hx g1=> zcD av' fv' T' good h2 (fun W W' g b=> hst.below g b) x hx W1 g1) B u ns (.slice a k c) hjl hss W (hu.trans ((Below.keptC hbW).mono hB)) (by omega) (by omega) (hst.below hg hbW)).mono ?_;intro e' w' hh;rw [hM] at hh;obtain ⟨v',rfl,_,a2,a3⟩:=hh;obtain ⟨a',c',rfl,_⟩:=id a2;exact ⟨_,_,_,rfl,zx.keep a2 (qg hws fun b o v _ _ hv=> hv),h.trans (a3.mono hws)⟩
 have hout:∀W,G W->Below w.heap.size w W:=fun W h=> by rw [hG] at h;exact hb0.trans (h.mono (by omega))
 obtain ⟨r0,r1,r2,r3,r4,r5,r6,r7,r8⟩:=hread _ g0;have hmf:∀(fn:Fn) (first cap:Array Value) (w:World),(Instr.makeFunc fn first cap).run Tryz.prog w= .ok (.func fn first cap) w:=fun _ _ _ _=> rfl;have HWS:=ZH hz;have n1:¬w.heap.size + 1=p1:=by have:=zD q0;omega
 have n2:¬w.heap.size + 1=p2:=by have:=zD q2;omega
 clear hG hss hW0 q0 q1 q2 q3 hz hk;go_enter Tryz.func173,Tryz.ntmps173;go_wp2;rw [<-HW.out]
 go_region_held3 (fun w'=> w'.cell? ⟨p1,0,none⟩=some av/\w'.cell? ⟨p1,1,none⟩=some fv/\w'.cell? ⟨p2,0,none⟩=some av'/\w'.cell? ⟨p2,1,none⟩=some fv'/\w'.cell? ⟨w.heap.size,0,none⟩=some (.string t)/\w'.cell? ⟨w.heap.size,1,none⟩=some (.slice a k c)) (go_keep)
  (first
  | (go_at_call 138;refine (htx _ (by assumption)).mono ?_;rintro e' w2 ⟨rfl,htz',g2⟩;obtain ⟨s0,s1,s2,s3,s4,s5,s6,s7,s8⟩:=hread _ g2)
  | (go_at_call 174;refine (hea _ (by assumption)).mono ?_;rintro e' w3 ⟨a',k',c',rfl,hat,g3⟩;obtain ⟨z0,z1,z2,z3,z4,z5,z6,z7,z8⟩:=hread _ g3))
 all_goals
  have hz3:=(hout _ g3).size;have hbw:=hout _ g3;go_wp2;simp [bodyPost,results,Tryz.results173,go_sem,z6,z7];refine ⟨⟨htz',_,rfl,zx.keep hat (qg (by have:=HWS.out;omega) fun b o v ha hb hv=> ?_)⟩,(hbw.setCell (show w.heap.size<=(⟨w.heap.size + 1,0,none⟩:Addr).block from Nat.le_succ _) _).setCell (show w.heap.size<=(⟨w.heap.size + 1,1,none⟩:Addr).block from Nat.le_succ _) _⟩;refine (ZB (w:=w3) ?_).trans hv;have hW:=HWS.out;rw [ZC _ _ _ _ (by simp;omega),ZC _ _ _ _ (by simp;omega)]
end
section
open Go.RowKit Go.Shelf Go.Maps
theorem zfr:(Tryz.prog.info? 130).map (fun i=> (i.zero,i.size,i.bytes))=some (some (.agg #[.int .i64 0, .string ⟨#[]⟩, .slice none 0 0, .slice none 0 0, .slice none 0 0]),5,96):=by kernel_rfl
theorem zlZ {S:Type} (B:Nat) (u:World) (m:Option Nat) (w:World) (sv:Value) (Inv:Nat->S->World->Prop) (F:S->zg->Option (zg×S)) (l:List zg) (a:Option Addr) (cap:Nat) (hl:l.length<=1000)
  (hsrc:l.length=0∨∃b off,a=some ⟨b,off,none⟩/\b < B/\zr B u b off l) (hu:zh B u w) (hB:B<=w.heap.size)
  (hInv:∀k s W W' row,Inv k s W->W.grownBy W' row->(∀r,row=some r->w.heap.size<=r)->Inv k s W') (hNC:∀k s W,Inv k s W->xD m W) (hm:∀b,m=some b->b < w.heap.size)
  (hcall:∀k (h:k < l.length) s W cs,Inv k s W->w.grownBy W m->zo B u cs l[k]->Calls Tryz.prog 142 #[sv, .agg cs.toArray] W fun e w'=> OutE (F s l[k]) e (W.grownBy w' m) fun (x,s')=> ∃cs',e= .returned (.agg cs'.toArray)/\zo w'.heap.size (blank W.heap.size w') cs' x/\Inv (k + 1) s' w'/\W.grownBy w' m)
  (st:S) (hI:Inv 0 st w):
  Calls Tryz.prog 141 #[.slice a l.length cap, .func (.func 142) #[sv] #[]] w fun e w'=> OutE (zV F st l) e (w.grownBy w' m) fun (l',s')=> ∃v,e= .returned v/\l'.length=l.length/\SlAt w'.heap.size v l'.length (fun b off=> zr w'.heap.size (blank w.heap.size w') b off l')/\Inv l.length s' w'/\w.grownBy w' m:=by
 obtain ⟨i0,hi,hz0,hz1,hz2⟩:=info_parts zfr;have eK:∀args w,(callFunc 142 args).run Tryz.prog w= .ok (.enter 142 args) w:=enters_of Tryz.func142 (by kernel_rfl) rfl;have hnc:=hNC _ _ _ hI;have hu':=ZH hu;clear hu;go_enter Tryz.func141,Tryz.ntmps141;go_wp2_with fail
 go_loopw [5,10] (fun v i wr=> ∃(k:Nat) (xs:List zg) (s:S) (vals:List Value),k<=l.length/\i= .int .i64 k/\zV F st (l.take k)=some (xs,s)/\xs.length=k/\wr.ownsRow w.heap.size 130 5 v k vals/\
  zq (fun _ w1 cs x=> qz zo w.heap.size v.ownBlock w1 cs x) 5 0 wr vals xs/\Inv k s wr/\w.grownBy wr m) (fun _ i _=> l.length - (intOf i).toNat)
 case atStart=> exact ⟨0, [],st, [],by omega,rfl,by simp [zV],rfl,ZR _ _ _ _,zq.nil _ _ _ _,hI,qx _ _⟩
 case round=>
  obtain ⟨k,xs,s,vals,hk,rfl,hst,hxl,hown,hch,hIs,hg⟩:=hrel;have HXL:=ZH hxl;clear hxl;by_cases hlt:k < l.length
  ·rcases hsrc with h0 | ⟨b,off,rfl,hb,hxs⟩
   ·omega
   obtain ⟨cs,hcell,hat⟩:=zr.get l b off hxs k hlt;have hku:zh B u wr:=hu'.out.trans (xi hg hnc hB);have hBr:B<=wr.heap.size:=Nat.le_trans hB hg.size;have hwr:=hg.size;have hcell':=hcell.keep hku hb;have hmore:=ZH (jD hlt hst);have hnone:=ZH (jO hlt hst);have hc:=hcall k hlt s (wr.alloc (.cells cs.toArray 130)) cs (hInv k s _ _ none hIs (ZW _ _ none) (by simp)) (zk hg (ZW _ _ none) (by simp)) hat;obtain ⟨c0,c1,c2,c3,c4,c5,c6,c7,c8,c9,c10,rfl⟩:=qW hat;obtain ⟨d0,d1,d2,d3,d4⟩:=zK hcell';clear hat hcell hcell' hxs hcall hst;obtain ⟨R,hR⟩:∃R,R=F s l[k]:=⟨_,rfl⟩;rw [<-hR] at hc hmore hnone;have HR:=ZH hR;clear hR;cases R with
   | none=>
    go_wp2_with (go_at_call 142;refine hc.mono ?_;clear hc;rintro e w3 ⟨rfl,hgp⟩);simp only [bodyPost];rw [hnone.out (by simp)];exact ⟨by trivial,rfl,zk (zk hg (ZW wr (.cells #[.int .i64 c0, .string c1, .slice c2 c3 c4, .slice c5 c6 c7, .slice c8 c9 c10] 130) none) (by simp)) hgp (fun r h=> .inr h)⟩
   | some r=>
    obtain ⟨x,s'⟩:=r
    have hj:∀(w3:World) (cs':List Value),zo w3.heap.size (blank (wr.alloc (.cells #[.int .i64 c0, .string c1, .slice c2 c3 c4, .slice c5 c6 c7, .slice c8 c9 c10] 130)).heap.size w3) cs' x->Inv (k + 1) s' w3->(wr.alloc (.cells #[.int .i64 c0, .string c1, .slice c2 c3 c4, .slice c5 c6 c7, .slice c8 c9 c10] 130)).grownBy w3 m->
      ∃e0 e1 e2 e3 e4 e5 e6 e7 e8 e9 e10 gg cp w',cs'= [.int .i64 e0, .string e1, .slice e2 e3 e4, .slice e5 e6 e7, .slice e8 e9 e10]/\(Builtin.append_ #[30,30] 30 #[u5, .slice (some ⟨w3.heap.size,0,none⟩) 1 1]).run Tryz.prog (w3.alloc (.cells #[.int .i64 e0, .string e1, .slice e2 e3 e4, .slice e5 e6 e7, .slice e8 e9 e10] 130))= .ok (.slice (some ⟨gg,0,none⟩) (k + 1) cp) w'/\
       w'.ownsRow w.heap.size 130 5 (.slice (some ⟨gg,0,none⟩) (k + 1) cp) (k + 1) (vals ++ [.int .i64 e0, .string e1, .slice e2 e3 e4, .slice e5 e6 e7, .slice e8 e9 e10])/\zq (fun _ w1 cs x=> qz zo w.heap.size (Value.slice (some ⟨gg,0,none⟩) (k + 1) cp).ownBlock w1 cs x) 5 0 w' (vals ++ [.int .i64 e0, .string e1, .slice e2 e3 e4, .slice e5 e6 e7, .slice e8 e9 e10]) (xs ++ [x])/\Inv (k + 1) s' w'/\w.grownBy w' m:=by
     intro w3 cs' hat' hI' hg';obtain ⟨e0,e1,e2,e3,e4,e5,e6,e7,e8,e9,e10,rfl⟩:=qW hat';obtain ⟨W4,hW4⟩:∃W4,W4=w3.alloc (.cells #[.int .i64 e0, .string e1, .slice e2 e3 e4, .slice e5 e6 e7, .slice e8 e9 e10] 130):=⟨_,rfl⟩;have hg3:wr.grownBy w3 m:=zk (zk (qx _ _) (ZW wr (.cells #[.int .i64 c0, .string c1, .slice c2 c3 c4, .slice c5 c6 c7, .slice c8 c9 c10] 130) none) (by simp)) hg' (fun r h=> .inr h);have hg4:wr.grownBy W4 m:=by rw [hW4];exact zk hg3 (ZW _ _ none) (by simp)
     have hoA:=zt hown hg4 (fun b hb e=> by have:=hm b e;have:=(hown.lt b hb).1;omega)
     obtain ⟨v',w',hr,h1,h2,h3,h4⟩:=run_append_own_at (P:=Tryz.prog) W4 w.heap.size 30 30 130 i0 (.agg #[.int .i64 0, .string ⟨#[]⟩, .slice none 0 0, .slice none 0 0, .slice none 0 0]) 5 96 Tryz.underlying30 hi hz0 hz1 hz2 rfl (by decide) _ k vals hoA
      ⟨w3.heap.size,0,none⟩ 1 1 [.int .i64 e0, .string e1, .slice e2 e3 e4, .slice e5 e6 e7, .slice e8 e9 e10] rfl (by
       intro j u hj;have e:(⟨w3.heap.size,0,none⟩:Addr).add j=⟨w3.heap.size,j,none⟩:=by unfold Addr.add;by_cases h:j=0 <;> simp [h]
       rw [e,hW4,ZA _ _ _ _ rfl];simpa using hj) (by simp [Value.oneCell']) (by unfold maxLen;omega) (by omega) (by have:=hg4.size;omega)
     have hs3:=hg3.size;have hs4:W4.heap.size=w3.heap.size + 1:=by rw [hW4];simp
     have hlo:=hown.lt
     have hch':zq (fun _ w1 cs x=> qz zo w.heap.size v'.ownBlock w1 cs x) 5 0 w' (vals ++ [.int .i64 e0, .string e1, .slice e2 e3 e4, .slice e5 e6 e7, .slice e8 e9 e10]) (xs ++ [x]):=by
      have hch1:zq (fun _ w1 cs x=> qz zo w.heap.size v'.ownBlock w1 cs x) 5 0 w' vals xs:=⟨hch.1,fun i hi=> qz.keep jB (hch.2 i hi) (fun b hb1 hb2 hb3=>
       (h2.block b (by omega) (fun e=> hb3 e.symm)).trans (hg4.block b hb2 (fun e=> by have:=hm b e.symm;omega))) (by have:=h2.size;omega) (by
        rcases h4 with h4 | h4
        ·exact .inl h4
        ·exact .inr ⟨_,h4,by omega⟩)⟩
      refine zq.snoc hch1 ?_ rfl
      ·refine ⟨wr.heap.size + 1,w3.heap.size,by omega,by have:=h2.size;omega,fun g hg=> ?_,?_⟩
       ·rcases h4 with h4 | h4
        ·rw [h4] at hg;have:=(hlo g hg).2;omega
        ·rw [h4] at hg;have:=ZJ hg;omega
       ·rw [World.size_alloc] at hat'
        refine jB _ _ _ _ _ _ (qg (ZL _) fun b o v ha hb hv=> ?_) (ZL _) hat';have e1:W4.cell? ⟨b,o,none⟩=some v:=by rw [hW4,ZP _ _ _ hb];exact hv
        refine (ZB (w:=W4) (h2.block b (by omega) (fun e=> ?_))).trans e1;have:=(hlo b e.symm).2;omega
     have hI4:Inv (k + 1) s' w':=hInv (k + 1) s' _ _ _ (hInv (k + 1) s' _ W4 none hI' (by rw [hW4];exact ZW _ _ none) (by simp)) h2 (fun r hr=> (hlo r hr).1);have hgw:w.grownBy w' m:=zk (zk hg hg4 (fun r h=> .inr h)) h2 (fun r hr=> .inl (hlo r hr).1);obtain ⟨_,⟨_,h0⟩ | ⟨gg,cp,cur,hvf,_⟩⟩:=id h1
     ·omega
     subst hvf;rw [hW4] at hr;exact ⟨_,_,_,_,_,_,_,_,_,_,_,gg,cp,w',rfl,hr,h1,hch',hI4,hgw⟩
    clear hch hIs hown hku
    go_wp2_with (first
     | (go_at_call 142;refine hc.mono ?_;clear hc;rintro e w3 ⟨cs',rfl,hat',hI',hg'⟩;obtain ⟨e0,e1,e2,e3,e4,e5,e6,e7,e8,e9,e10,gg,cp,w',rfl,hr,h1,h2,h3,h4⟩:=hj w3 cs' hat' hI' hg';have H1:=ZH h1;have H2:=ZH h2;have H3:=ZH h3;have H4:=ZH h4;clear hj hat' hI' hg' h1 h2 h3 h4)
     | (show wpList _ _ _ (⟨some 19,_,_,_,_,_⟩::_) _ _;refine qe rfl (.tmp 14) (.tmp 18) 30 30 rfl rfl rfl hr ?_))
    go_roundw
    case rel=> exact ⟨k + 1,xs ++ [x],s',_,by omega,by go_num,hmore.out,by simp [HXL.out],H1.out,H2.out,H3.out,H4.out⟩
    case measure=> simp [intOf];omega
  ·obtain rfl:k=l.length:=by omega
   rw [List.take_length] at hst;have HXL':=HXL.out;have hsl:=zgf (by rw [HXL'];exact hown) hch;have HSL:=ZH hsl;obtain ⟨aa,cc,hvv,_⟩:=zJ (by omega) hown;subst hvv;clear hsl hch hown;go_wp2;go_ret;rw [hst];exact ⟨_,rfl,HXL',HSL.out,hIs,hg⟩
end
end Go.Proofs.YtjmlaeofjjhfmaaGreat
