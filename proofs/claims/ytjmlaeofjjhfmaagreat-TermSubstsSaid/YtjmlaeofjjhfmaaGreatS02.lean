/- Lemmas. -/
import Derived.Test.YtjmlaeofjjhfmaaGreatS01
import Derived.Laws.EntriesVeiled
import Derived.Laws.AppendOwnNone
set_option linter.unusedVariables false
set_option linter.unusedSimpArgs false
set_option maxRecDepth 10000
set_option maxHeartbeats 16000000
namespace Go.Proofs.YtjmlaeofjjhfmaaGreat
section
open Go.RowKit Go.Shelf
attribute [local go_sem] Oper.semAt_some
set_option maxRecDepth 100000 in
theorem zky (n l n0 n1 Bp B:Nat) (u:World) (p:Part) (v:Value) (G:Part×Nat->Prop) (J Jx:List (Nd B u G)->World->Prop)
  (hB0:B<=n0) (h01:n0<=n1) (hsm:p.allSmall) (hps:p.size<=900) (hG:∀q∈zw 1 p,G q) (hv:zY B u v p)
  (hJ:∀pre A W,J pre A->A.grownBy W none->J pre W)
  (hY:∀m pre (x:Nd B u G) W,J pre W->pre.length < p.size->YieldAt Fence.wide m Tryz.prog l (encN x) W fun e W'=>
   (e= .returned (.bool true)/\J (pre ++ [x]) W'/\KpC n0 n1 W W')∨(e= .returned (.bool false)/\Jx (pre ++ [x]) W'))
  (W:World) (hu:zh B u W) (hn1:n1<=W.heap.size) (hBp:W.cell? ⟨Bp,0,none⟩=some v) (h0:J [] W):
  CallsIn Fence.wide n Tryz.prog 157 #[.func (.yield l) #[] #[], .pointer (some ⟨Bp,0,none⟩)] W fun e W'=> (∃v,e= .returned v)/\
   ((∃xs:List (Nd B u G),xs.map (fun x=> x.1.2)=zw 1 p/\J xs W')∨(∃pre,True/\Jx pre W')):=by
 have hdd:∀k:Nat,(Fence.wide.depth.isSome=true->1<=k):=fun k h=> by cases h
 have hmf:∀(fn:Fn) (first cap:Array Value) (w:World),(Instr.makeFunc fn first cap).run Tryz.prog w= .ok (.func fn first cap) w:=fun _ _ _ _=> rfl;have hBpl:=zD hBp;obtain ⟨W3,hW3⟩:∃W3,W3=((W.alloc (.cells #[.func (.yield l) #[] #[]] 188)).alloc (.cells #[.func (.func 158) #[] #[.pointer (some ⟨W.heap.size,0,none⟩), .pointer (some ⟨W.heap.size + 1,0,none⟩)]] 188)):=⟨_,rfl⟩;have hb3:Below W.heap.size W W3:=by rw [hW3];exact (ZQ W _).alloc (by simp) _
 have ct:W3.cell? ⟨W.heap.size,0,none⟩=some (.func (.yield l) #[] #[]):=by
  rw [hW3,ZP _ _ _ (by simp),ZA _ _ _ _ rfl];rfl
 have cw:W3.cell? ⟨W.heap.size + 1,0,none⟩=some (.func (.func 158) #[] #[.pointer (some ⟨W.heap.size,0,none⟩), .pointer (some ⟨W.heap.size + 1,0,none⟩)]):=by
  rw [hW3,ZA _ _ _ _ (by simp)];rfl
 have hw:=zgE l n0 n1 p.size W.heap.size (W.heap.size + 1) B u G J Jx hB0 h01 hn1 (by omega) hJ hY p.size p (ZL _) hsm (n - 1) 1 v [] W3 hG (by omega) hv
  (hu.trans ((Below.keptC hb3).mono (by omega))) (by have:=hb3.size;omega) ct cw (hJ _ _ _ h0 (zj hb3)) (by simp)
 have HW:=ZH hW3;refine callsIn_of_wp Tryz.func157 rfl trivial ?_ rfl;simp only [Tryz.ntmps157,List.size_toArray,List.length_cons,List.length_nil,Nat.reduceAdd,Nat.reduceSub,Array.replicate_succ,Array.replicate_zero,List.push_toArray,List.append_toArray,List.nil_append,List.cons_append];clear hW3
 gi_wp2_with (refine ⟨trivial,hdd _,?_⟩;rw [<-HW.out];refine hw.mono ?_;clear hw;rintro e W1 (⟨rfl,xs,hxs,hJ1,_⟩ | ⟨rfl,q,hx⟩);have HXS:=ZH hxs;clear hxs)
 ·go_end0
  exact ⟨⟨_,rfl⟩, .inl ⟨xs,HXS.out,by simpa using hJ1⟩⟩
 ·go_end0
  exact ⟨⟨_,rfl⟩, .inr ⟨q,trivial,hx⟩⟩
theorem zcz {m:Nat} (m':Nat) {P:Program} {l:Nat} {args:Array Value} {W:World} {R:Ending->World->Prop} (h:YieldAt Fence.wide m P l args W R):YieldAt Fence.wide m' P l args W R:=by
 obtain ⟨fn,tmps,assign,body,hy,hR⟩:=h;exact ⟨fn,tmps,assign,body,hy,hR.1,fun c cs _=> hR.2 c cs (fun d hd=> by cases hd)⟩
theorem zdC (n n0 n1 Bp B:Nat) (u:World) (p:Part) (v:Value) (G:Part×Nat->Prop) (hB0:B<=n0) (h01:n0<=n1) (hsm:p.allSmall) (hps:p.size<=900)
  (hG:∀q∈zw 1 p,G q) (hv:zY B u v p) (w:World) (hu:zh B u w) (hn1:n1<=w.heap.size) (hBp:w.cell? ⟨Bp,0,none⟩=some v):
  SeqStopsK Fence.wide n Tryz.prog 157 #[.pointer (some ⟨Bp,0,none⟩)] (encN (B:=B) (u:=u) (G:=G)) (KpC n0 n1) (fun xs=> xs.map (fun x=> x.1.2)=zw 1 p) (fun _=> True) p.size w:=
 fun l J Jx W hW hJ _ hY h0=>
  zky n l n0 n1 Bp B u p v G J Jx hB0 h01 hsm hps hG hv (fun pre A W' h hg=> hJ pre A W' none h hg (by simp)) (fun m pre x W1 a b=> zcz m (hY pre x W1 a b)) W
   (hu.trans (fun b o v hb hv=> (hW.cell (p:=⟨b,o,none⟩) (zD hv)).trans hv)) (by have:=hW.size;omega) ((hW.cell (p:=⟨Bp,0,none⟩) (zD hBp)).trans hBp) h0
theorem zcI (n:Nat) (ty:TypeId) (x:Value) (w:World):
  CallsIn Fence.wide n Tryz.prog 116 #[.iface ty x] w fun e w'=> e= .returned (.func (.func 157) #[] #[.pointer (some ⟨w.heap.size,0,none⟩)])/\w'=w.alloc (.cells #[.iface ty x] 154):=by
 have hmf:∀(fn:Fn) (first cap:Array Value) (w:World),(Instr.makeFunc fn first cap).run Tryz.prog w= .ok (.func fn first cap) w:=fun _ _ _ _=> rfl;refine callsIn_of_wp Tryz.func116 rfl trivial ?_ rfl;simp only [Tryz.ntmps116,List.size_toArray,List.length_cons,List.length_nil,Nat.reduceAdd,Nat.reduceSub,Array.replicate_succ,Array.replicate_zero,List.push_toArray,List.append_toArray,List.nil_append,List.cons_append]
 gi_wp2
 go_ret;exact ⟨rfl,rfl⟩
theorem KpC.putObj {n0 n1:Nat} (W:World) (l:Nat) (o o':Obj) (hl:W.heap[l]?=some o) (hc:o.isCells=false):KpC n0 n1 W (W.putObj l o'):=by
 refine ⟨by simp [World.putObj],fun b x v _ hv=> ?_⟩;exact cell_kept hv (grownBy_putObj' W l o') (fun r e=> by cases e;exact ⟨o,hl,hc⟩)
attribute [local go_sem] Oper.semAt_some
theorem KpC.setCell {n0 n1:Nat} (W:World) (a:Addr) (v:Value) (h0:n0<=a.block) (h1:a.block < n1):KpC n0 n1 W (W.setCell a v):=by
 refine ⟨by simp [World.setCell],fun b o x hb hx=> ?_⟩;rw [World.cell?_setCell_other _ _ _ _ (by intro e;have:a.block=b:=(by simpa using congrArg Addr.block e);omega)];exact hx
theorem xa {B:Nat} {u:World} {v:Value} {p:Part} (h:zY B u v p):∃ty x,v= .iface ty x:=by
 cases p with
 | proc t=> obtain ⟨cs,h1,_⟩:=h;exact ⟨_,_,h1⟩
 | exp t=> obtain ⟨cs,h1,_⟩:=h;exact ⟨_,_,h1⟩
 | def_ t=> obtain ⟨cs,h1,_⟩:=h;exact ⟨_,_,h1⟩
def maxL (l:List Nat):Nat:=l.foldl max 0
theorem zks (l:List Nat) (x:Nat):maxL (l ++ [x])=max (maxL l) x:=by simp [maxL]
def Part.depth (p:Part):Nat:=maxL ((zw 1 p).map (·.2))
set_option maxRecDepth 100000 in
theorem zi3 (n B:Nat) (hn:3<=n) (u:World) (p:Part) (v:Value) (w:World) (hu:zh B u w) (hB:B<=w.heap.size) (hsm:p.allSmall) (hps:p.size<=900) (hv:zY B u v p):
  CallsIn Fence.wide n Tryz.prog 66 #[v] w fun e w'=> e= .returned (.tuple #[.int .i64 p.size, .int .i64 p.depth])/\Below w.heap.size w w':=by
 obtain ⟨ty,x,rfl⟩:=xa hv;have hdd:∀k:Nat,(Fence.wide.depth.isSome=true->1<=k):=fun k h=> by cases h
 have h1:1<=n:=by omega
 have hF:∀k,Fence.wide.fn k:=fun _=> trivial;refine callsIn_of_wp_marks Tryz.func66 rfl trivial ?_ rfl;simp only [Tryz.ntmps66,List.size_toArray,List.length_cons,List.length_nil,Nat.reduceAdd,Nat.reduceSub,Array.replicate_succ,Array.replicate_zero,List.push_toArray,List.append_toArray,List.nil_append,List.cons_append]
 gi_wp2_with (gi_at_call 116;refine (zcI (n - 1) _ _ _).mono ?_;rintro e w' ⟨rfl,rfl⟩)
 obtain ⟨W0,hW0⟩:∃W0,W0=(((w.alloc (.cells #[.int .i64 0] 3)).alloc (.cells #[.int .i64 0] 3)).alloc (.cells #[.iface ty x] 154)):=⟨_,rfl⟩;have hsz:W0.heap.size=w.heap.size + 3:=by rw [hW0];simp
 have hb0:Below w.heap.size w W0:=by rw [hW0];exact ((ZQ w _).alloc (by simp) _).alloc (by simp;omega) _
 have c0:W0.cell? ⟨w.heap.size,0,none⟩=some (.int .i64 0)/\W0.frozen? ⟨w.heap.size,0,none⟩=false:=by
  rw [hW0];constructor
  ·rw [ZP _ _ _ (by simp;omega),ZP _ _ _ (by simp),ZA _ _ _ _ rfl];rfl
  ·rw [World.frozen?_alloc_past _ _ _ (by simp;omega),World.frozen?_alloc_past _ _ _ (by simp),World.frozen?_alloc_at _ _ _ _ rfl]
 have c1:W0.cell? ⟨w.heap.size + 1,0,none⟩=some (.int .i64 0)/\W0.frozen? ⟨w.heap.size + 1,0,none⟩=false:=by
  rw [hW0];constructor
  ·rw [ZP _ _ _ (by simp),ZA _ _ _ _ (by simp)];rfl
  ·rw [World.frozen?_alloc_past _ _ _ (by simp),World.frozen?_alloc_at _ _ _ _ (by simp)]
 have c2:W0.cell? ⟨w.heap.size + 2,0,none⟩=some (.iface ty x):=by
  rw [hW0,ZA _ _ _ _ (by simp)];rfl
 rw [<-hW0];have HW:=ZH hW0;clear hW0;have hst:=zdC (n - 1) w.heap.size (w.heap.size + 2) (w.heap.size + 2) B u p _ (fun _=> True) hB (by omega) hsm hps (fun _ _=> trivial) hv W0 (hu.trans ((Below.keptC hb0).mono hB)) (by omega) c2
 refine wpIn_rangeFunc_ownF rfl h1 (gf:=157) (lb:=#[.pointer (some ⟨w.heap.size + 2,0,none⟩)]) rfl trivial (enters_of Tryz.func157 (by kernel_rfl) rfl)
  hst KpC.trans (fun W l o o' _ h1 h2 _=> KpC.putObj W l o o' h1 h2) (ZF _ _) (fun _=> rfl)
  (fun pre W=> (W.cell? ⟨w.heap.size,0,none⟩=some (.int .i64 pre.length)/\W.frozen? ⟨w.heap.size,0,none⟩=false/\W.cell? ⟨w.heap.size + 1,0,none⟩=some (.int .i64 (maxL (pre.map (fun x=> x.1.2.2))))/\W.frozen? ⟨w.heap.size + 1,0,none⟩=false)/\Below w.heap.size w W)
  (fun _ _ _=> False)
  (OwnFrom.and (Own.from (fun s A B row hs hg hr=> ⟨cell_kept hs.1 hg hr,(frozen_kept hs.1 hg hr).trans hs.2.1,cell_kept hs.2.2.1 hg hr,(frozen_kept hs.2.2.1 hg hr).trans hs.2.2.2⟩) _) (ownFrom_below (ZL _) (by omega)))
  (fun _ _ _ _ _ hs _ _=> hs)
  ⟨⟨c0.1,c0.2,c1.1,c1.2⟩,hb0⟩
  (fun x'=> { tmps:=#[.iface ty x,undef, .pointer (some ⟨w.heap.size,0,none⟩), .pointer (some ⟨w.heap.size + 1,0,none⟩),undef, .int .i64 x'.1.2.2, .iface ty x, .func (.func 157) #[] #[.pointer (some ⟨w.heap.size + 2,0,none⟩)],x'.1.1, .int .i64 x'.1.2.2,undef,undef,undef,undef,undef,undef,undef],defers:= [] }) ?assign ?body ?done ?stop
 case assign=>
  intro l x W K hK;dsimp only [encN]
  gi_wp2
  exact hK
 case body=>
  rintro l pre x' W ⟨⟨hc,hf,hc1,hf1⟩,hB'⟩ hN
  have key:∀m2:Int,m2=(max (maxL (pre.map (fun x=> x.1.2.2))) x'.1.2.2:Nat)->KeepsOthers W ((W.setCell ⟨w.heap.size,0,none⟩ (.int .i64 (pre.length + 1))).setCell ⟨w.heap.size + 1,0,none⟩ (.int .i64 m2))/\
    KpC w.heap.size (w.heap.size + 2) W ((W.setCell ⟨w.heap.size,0,none⟩ (.int .i64 (pre.length + 1))).setCell ⟨w.heap.size + 1,0,none⟩ (.int .i64 m2))/\
    ((((W.setCell ⟨w.heap.size,0,none⟩ (.int .i64 (pre.length + 1))).setCell ⟨w.heap.size + 1,0,none⟩ (.int .i64 m2)).cell? ⟨w.heap.size,0,none⟩=some (.int .i64 (pre ++ [x']).length)/\((W.setCell ⟨w.heap.size,0,none⟩ (.int .i64 (pre.length + 1))).setCell ⟨w.heap.size + 1,0,none⟩ (.int .i64 m2)).frozen? ⟨w.heap.size,0,none⟩=false/\
     ((W.setCell ⟨w.heap.size,0,none⟩ (.int .i64 (pre.length + 1))).setCell ⟨w.heap.size + 1,0,none⟩ (.int .i64 m2)).cell? ⟨w.heap.size + 1,0,none⟩=some (.int .i64 (maxL ((pre ++ [x']).map (fun x=> x.1.2.2))))/\((W.setCell ⟨w.heap.size,0,none⟩ (.int .i64 (pre.length + 1))).setCell ⟨w.heap.size + 1,0,none⟩ (.int .i64 m2)).frozen? ⟨w.heap.size + 1,0,none⟩=false)/\
     Below w.heap.size w ((W.setCell ⟨w.heap.size,0,none⟩ (.int .i64 (pre.length + 1))).setCell ⟨w.heap.size + 1,0,none⟩ (.int .i64 m2))):=by
   intro m2 hm2;refine ⟨(KeepsOthers.setCell _ _ _).trans (KeepsOthers.setCell _ _ _),(KpC.setCell _ _ _ (ZL _) (by simp)).trans (KpC.setCell _ _ _ (by simp) (by simp)),⟨?_,?_,?_,?_⟩,(hB'.setCell (by simp) _).setCell (by simp) _⟩
   ·rw [World.cell?_setCell_other _ _ _ _ (by simp),World.cell?_setCell_same' _ _ _ (by rw [hc];rfl)];simp
   ·rw [World.frozen?_setCell,World.frozen?_setCell];exact hf
   ·rw [World.cell?_setCell_same' _ _ _ (by rw [World.cell?_setCell_other _ _ _ _ (by simp),hc1];rfl),hm2,List.map_append,List.map_cons,List.map_nil,zks]
   ·rw [World.frozen?_setCell,World.frozen?_setCell];exact hf1
  have HK:=ZH key;clear key
  gi_wp2
  all_goals exact HK.out _ (by omega)
 case done=>
  rintro D ys W hD hys ⟨⟨hc,hf,hc1,hf1⟩,hB'⟩ hK;have e1:(ys.length:Int)=p.size:=by have:=congrArg List.length hys;rw [List.length_map,yP 1 0] at this;rw [this];rfl
  have e2:maxL (ys.map (fun x=> x.1.2.2))=p.depth:=by unfold Part.depth;rw [<-hys,List.map_map];rfl
  have E1:=ZH e1;have E2:=ZH e2;have HYS:=ZH hys;clear e1 e2 hys
  gi_wp2
  gi_region
  all_goals gi_wp2
  have hKO:KeepsOthers W ((W.setCell ⟨w.heap.size,0,none⟩ (.int .i64 ys.length)).setCell ⟨w.heap.size + 1,0,none⟩ (.int .i64 (maxL (ys.map (fun x=> x.1.2.2))))):=(KeepsOthers.setCell _ _ _).trans (KeepsOthers.setCell _ _ _);have hK2:=hKO.same D _ hK rfl;have hB2:Below w.heap.size w ((W.setCell ⟨w.heap.size,0,none⟩ (.int .i64 ys.length)).setCell ⟨w.heap.size + 1,0,none⟩ (.int .i64 (maxL (ys.map (fun x=> x.1.2.2))))).drew:=((hB'.setCell (by simp) _).setCell (by simp) _).drew;refine ⟨by simp, .inl ⟨_,_,rfl,run_takeDeferred (hK2.trans rfl),?_⟩⟩;obtain ⟨W5,hW5⟩:∃W5,W5=((W.setCell ⟨w.heap.size,0,none⟩ (.int .i64 ys.length)).setCell ⟨w.heap.size + 1,0,none⟩ (.int .i64 (maxL (ys.map (fun x=> x.1.2.2))))).drew:=⟨_,rfl⟩
  have d0:W5.cell? ⟨w.heap.size,0,none⟩=some (.int .i64 p.size):=by
   rw [hW5];show World.cell? ((W.setCell _ _).setCell _ _) _=_;rw [World.cell?_setCell_other _ _ _ _ (by simp),World.cell?_setCell_same' _ _ _ (by rw [hc];rfl),E1.out]
  have d1:W5.cell? ⟨w.heap.size + 1,0,none⟩=some (.int .i64 p.depth):=by
   rw [hW5];show World.cell? ((W.setCell _ _).setCell _ _) _=_;rw [World.cell?_setCell_same' _ _ _ (by rw [World.cell?_setCell_other _ _ _ _ (by simp),hc1];rfl),E2.out]
  have hK3:W5.heap[D]?=some (.deferred (some [])):=by rw [hW5];exact hK2.trans rfl
  rw [<-hW5] at hB2 ⊢;have d2:=cell_kept d0 (grownBy_putObj' W5 D (.deferred none)) (fun r e=> by cases e;exact ⟨_,hK3,rfl⟩);have d3:=cell_kept d1 (grownBy_putObj' W5 D (.deferred none)) (fun r e=> by cases e;exact ⟨_,hK3,rfl⟩);refine ⟨.tuple #[.int .i64 p.size, .int .i64 p.depth],?_,rfl,?_⟩
  ·simp [results,Tryz.results66,go_sem,d2,d3]
  ·exact hB2.trans (belowK_b (w:=w) (ZL _) _ D _ _ (by omega) hK3 rfl rfl)
 case stop=>
  rintro D c pre W _ _ h _;exact h.elim
end
section
open Go.RowKit Go.Maps
def zem (acc:List (List UInt8)):Nat:=((acc.map Lit.string).foldl addKey []).length
theorem qK.len {w:World} {b n:Nat} {acc:List (List UInt8)} (h:qK w b n acc) (ty:TypeId):
  (Builtin.len_ #[70] ty #[.map (some b)]).run Tryz.prog w= .ok (.int .i64 (zem acc)) w:=by
 have:=World.ownsMap.len h Tryz.underlying70 ty;rw [size_setOf _ _ (zk0 acc)] at this;exact this
def jF (ss:List ByteArray):Bool:=ss.all qn && decide (zem (ss.map zb)=ss.length)
theorem zgV (ss:List ByteArray) (k:Nat) (h:k < ss.length):(ss.take (k + 1)).all qn=((ss.take k).all qn && qn ss[k]):=by
 rw [ZT h,List.all_append];simp
theorem zeJ (v:Value) (ss:List ByteArray) (w:World) (h:zx w.heap.size w v ss):
  Calls Tryz.prog 192 #[v] w fun e w'=> e= .returned (.bool (jF ss))/\Below w.heap.size w w':=by
 have h0:=h;obtain ⟨a,cap,rfl,hl,hz,hcap,h⟩:=h;go_enter Tryz.func192,Tryz.ntmps192;go_wp2
 go_loopw [7] (fun i wr=> ∃k:Nat,k<=ss.length/\i= .int .i64 k/\Hid ((ss.take k).all qn=true)/\Below w.heap.size w wr) (fun i _=> ss.length - (intOf i).toNat)
 case atStart=> exact ⟨0,by omega,rfl,ZH rfl,ZF _ _⟩
 case round=>
  obtain ⟨k,hk,rfl,hn,hB⟩:=hrel;have hsz:=hB.size;by_cases hlt:k < ss.length
  ·rcases h with rfl | ⟨b,off,rfl,hb,hc⟩
   ·simp at hlt
   have hcell:=(hB.cell (p:=⟨b,off + k,none⟩) hb).trans (hc k hlt);have hzk:=hz ss[k] (ZM hlt);have hsn:=ZH (zgV ss k hlt);by_cases hnm:qn ss[k]=true
   ·go_wp2_with (go_at_call 16;refine (j4 _ _ hzk).mono ?_;rintro e w1 ⟨rfl,hb1⟩)
    go_roundw
    case rel=> exact ⟨k + 1,by omega,by go_num,ZH (by rw [hsn.out,hn.out,hnm];rfl),hB.trans (hb1.mono hsz)⟩
    case measure=> simp [intOf];omega
   ·have hnm':qn ss[k]=false:=by simpa using hnm
    clear hnm
    have hF:Hid (jF ss=false):=ZH (by
     unfold jF;have:ss.all qn=false:=by rw [List.all_eq_false];exact ⟨_,ZM hlt,by simp [hnm']⟩
     rw [this];rfl)
    go_wp2_with (go_at_call 16;refine (j4 _ _ hzk).mono ?_;rintro e w1 ⟨rfl,hb1⟩);go_ret;exact ⟨by rw [hF.out];rfl,hB.trans (hb1.mono hsz)⟩
  ·obtain rfl:k=ss.length:=by omega
   have hst:=(h0.below hB).mono hsz;have hall:=hn.out;rw [List.take_length] at hall;have HA:=ZH hall;clear hall;go_wp2_with (go_at_call 57;refine (zgg _ ss _ hst).mono ?_;rintro e w1 ⟨rfl,hset,hb1⟩;have hlen:=hset.len);go_ret;refine ⟨?_,hB.trans (hb1.mono hsz)⟩;unfold jF;rw [HA.out,Bool.true_and];refine congrArg (fun x=> Ending.returned (.bool x)) ?_;rw [Bool.eq_iff_iff];simp;omega
def j8:Exp->Bool
 | .mk op n text kids=> (op==1 && decide (-1000000000<=n) && decide (n<=1000000000) && text.size==0 && kids.length==0) ||
   (op==2 && n==0 && qn text && kids.length==0) || (decide (3<=op) && decide (op<=7) && n==0 && text.size==0 && kids.length==2)
theorem xd {s:ByteArray} (h:s.size=0):s=ByteArray.empty:=by
 cases s with | mk d=> simp [ByteArray.size] at h;simp [ByteArray.empty,ByteArray.emptyWithCapacity,h];rfl
def yg:Term->Bool
 | .mk op text args defs kids=>
  ((op==1 || op==7) && text.size==0 && args.length==0 && defs.length==0 && kids.length==0) ||
  (op==2 && qn text && decide (args.length<=3) && defs.length==0 && kids.length==0) ||
  (op==3 && text.size==0 && args.length==0 && defs.length==0 && kids.length==2) ||
  (op==4 && text.size==0 && args.length==0 && decide (1<=defs.length) && decide (defs.length<=5) && kids.length==1) ||
  (op==5 && text.size==0 && args.length==1 && defs.length==0 && kids.length==2) ||
  ((op==6 || op==8) && qn text && args.length==0 && defs.length==0 && kids.length==1)
theorem zaK:(Tryz.prog.info? 9).map (fun i=> (i.zero,i.size,i.bytes))=some (some (.string ⟨#[]⟩),1,16):=by kernel_rfl
def Away (v v':Value):Prop:=∀g,v.ownBlock=some g->v'.ownBlock≠some g
def zn (ss:List ByteArray):List Value:=ss.map Value.string
theorem qX {w w':World} {base e n:Nat} {v:Value} {xs:List Value} {row:Option Nat} (h:w.ownsRow base e 1 v n xs) (hg:w.grownBy w' row) (hne:∀g,v.ownBlock=some g->row≠some g):w'.ownsRow base e 1 v n xs:=by
 obtain ⟨h1,h2 | ⟨g,cap,cur,rfl,hb,hg',r⟩⟩:=h
 ·exact ⟨h1, .inl h2⟩
 ·refine ⟨h1, .inr ⟨g,cap,cur,rfl,hb,?_,r⟩⟩
  rw [hg.block g (ZG hg').1 (by intro e;exact hne g rfl e.symm)];exact hg'
theorem qM {w:World} {B:Nat} {v:Value} {ss:List ByteArray} (h:w.ownsRow B 9 1 v ss.length (zn ss)) (hz:∀s∈ss,s.size<=maxLen):zx w.heap.size w v ss:=by
 obtain ⟨_,⟨rfl,h2⟩ | ⟨g,cap,cur,rfl,hBg,hg,hn,hm,hsz,htk⟩⟩:=h
 ·exact ⟨none,0,by rw [h2],by omega,hz,fun _=> rfl, .inl (List.eq_nil_of_length_eq_zero h2)⟩
 ·refine ⟨_,cap,rfl,by unfold maxLen at hm;omega,hz,(by simp), .inr ⟨g,0,rfl,(ZG hg).1,fun j hj=> ?_⟩⟩
  simp only [Nat.mul_one] at htk hsz;have hj':j < cur.size:=by omega
  have e1:cur[j]= .string ss[j]:=by
   have:(zn ss)[j]?=(cur.toList.take ss.length)[j]?:=by rw [htk]
   rw [List.getElem?_take_of_lt hj] at this;simp [zn,hj,hj'] at this;exact this.symm
  simp [World.cell?,hg,e1,hj']
def qH (js:List Msg):Bool:=decide (1<=js.length) && decide (js.length<=3) && js.all (fun j=> decide (j.names.length<=3)) && jF (js.map (·.text)) && jF (js.flatMap (·.names))
def yB:zg->Bool
 | .mk form text joins defs kids=>
  (form==1 && text.size==0 && qH joins && defs.length==0 && kids.length==1) ||
  (form==2 && qn text && joins.length==0 && decide (defs.length<=5) && kids.length==1)
theorem zcr (v:Value) (w:World):(Instr.typeAssert (.iface 83 v) 154 83 true).run Tryz.prog w= .ok (.tuple #[v, .bool true]) w:=by kernel_rfl
theorem zdX (v:Value) (w:World):(Instr.typeAssert (.iface 88 v) 154 88 true).run Tryz.prog w= .ok (.tuple #[v, .bool true]) w:=by kernel_rfl
theorem zcH (v:Value) (w:World):(Instr.typeAssert (.iface 191 v) 154 191 true).run Tryz.prog w= .ok (.tuple #[v, .bool true]) w:=by kernel_rfl
theorem zcp (v:Value) (w:World):(Instr.typeAssert (.iface 88 v) 154 83 true).run Tryz.prog w= .ok (.tuple #[.agg #[.int .i64 0, .string ⟨#[]⟩, .slice none 0 0, .slice none 0 0, .slice none 0 0], .bool false]) w:=by kernel_rfl
theorem zbQ (v:Value) (w:World):(Instr.typeAssert (.iface 191 v) 154 83 true).run Tryz.prog w= .ok (.tuple #[.agg #[.int .i64 0, .string ⟨#[]⟩, .slice none 0 0, .slice none 0 0, .slice none 0 0], .bool false]) w:=by kernel_rfl
theorem zdc (v:Value) (w:World):(Instr.typeAssert (.iface 191 v) 154 88 true).run Tryz.prog w= .ok (.tuple #[.agg #[.int .i64 0, .int .i64 0, .string ⟨#[]⟩, .slice none 0 0], .bool false]) w:=by kernel_rfl
def Part.shaped:Part->Bool
 | .proc t=> yg t
 | .exp e=> j8 e
 | .def_ c=> yB c
end
end Go.Proofs.YtjmlaeofjjhfmaaGreat
