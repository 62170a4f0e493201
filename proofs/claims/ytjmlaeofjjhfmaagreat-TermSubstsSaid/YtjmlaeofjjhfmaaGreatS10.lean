/- Lemmas. -/
import Derived.Test.YtjmlaeofjjhfmaaGreatS08
import Derived.Test.YtjmlaeofjjhfmaaGreatS09
import Derived.RangeFuncWrites
import Derived.Laws.IdiomStrings
set_option linter.unusedVariables false
set_option linter.unusedSimpArgs false
set_option maxRecDepth 10000
set_option maxHeartbeats 16000000
namespace Go.Proofs.YtjmlaeofjjhfmaaGreat
section
open Go.RowKit Go.Shelf Go.Maps Go.Sort
def mkB (l:List UInt8):ByteArray:=⟨l.toArray⟩
theorem yv (l:List UInt8):zb (mkB l)=l:=by simp [zb,mkB]
theorem SetF.sorted_in {w:World} {b n:Nat} {f:List UInt8->Bool} (h:SetF w b n f) (hn:n<=100000) (E:List (List UInt8)) (hE:E.Nodup) (hm:∀k,k∈E↔f k=true):
  CallsIn Fence.wide 5 Tryz.prog 73 #[.func (.func 128) #[] #[.pointer (some ⟨w.heap.size,0,none⟩)]] (w.alloc (.cells #[.map (some b)] 70)) fun e w'=> ∃v,e= .returned v/\
   zx w'.heap.size w' v ((E.mergeSort leB).map mkB)/\Below w.heap.size w w':=by
 obtain ⟨D,hD,hf⟩:=h;have hsz:=hD.size_le;refine (Tryz.slices_Sorted_keys_73_74 b n D _ w hD (by unfold maxLen;omega) (by omega)).mono ?_;rintro e w' ⟨v,ss,rfl,hp,ho,_,hb⟩;have hle:=strKeys_le hD Tryz.underlying9;obtain ⟨es,rfl,hpw,_⟩:=hD.entries (string_keyed Tryz.underlying9);obtain ⟨es',he',hko⟩:=hD.keysOf;obtain rfl:es=es':=by simpa using he'
 have hpE:=perm_strKeys (H:=Unit) hpw (fun p hp=> by obtain ⟨v,hv⟩:=hko p hp;obtain ⟨x,_,hx,_⟩:=Maps.keyOf_str Tryz.underlying9 hv;exact ⟨x,hx⟩) hE (fun x=> by rw [hm x,<-(hf x).1]);have hms:ss.mergeSort leB=E.mergeSort leB:=mergeSort_of_perm (hp.trans hpE.symm);have hlen:ss.length=((E.mergeSort leB).map mkB).length:=by rw [<-hms];simp
 have hval:(ss.mergeSort (fun x y=> decide (x<=y))).map encStr=zn ((E.mergeSort leB).map mkB):=by
  rw [show (fun x y:List UInt8=> decide (x<=y))=leB from rfl,hms];simp [zn,mkB]
 rw [hval,hlen] at ho;refine ⟨v,rfl,qM ho (fun s hs=> ?_),(ZQ w _).trans (hb.mono (by simp))⟩;obtain ⟨l,hl,rfl⟩:=List.mem_map.1 hs;have h2:=hle l (hpE.mem_iff.1 ((List.mergeSort_perm E leB).mem_iff.1 hl));simpa [mkB,ByteArray.size] using h2
theorem zns {js:List Msg} (h:qH js=true):(ql js).length<=100000:=by
 unfold qH at h;simp only [Bool.and_eq_true,decide_eq_true_eq,List.all_eq_true] at h;obtain ⟨⟨⟨⟨h1,h2⟩,h3⟩,h4⟩,h5⟩:=h
 have:∀l:List Msg,(∀x∈l,x.names.length<=3)->(ql l).length<=3 * l.length:=by
  intro l
  induction l with
  | nil=> intro _;simp [ql]
  | cons a l ih=>
   intro hl;have e:ql (a::l)=a.names ++ ql l:=by simp [ql]
   have h1:=hl a (by simp);have h2:=ih (fun x hx=> hl x (by simp [hx]));rw [e,List.length_append,List.length_cons];omega
 have:=this js h3;omega
theorem zT.allBind {p:Part} (h:zT p):p.allBind:=by
 intro q hq;rw [qJ 0 1] at hq;obtain ⟨y,hy,rfl⟩:=List.mem_map.1 hq;obtain ⟨h1,_,h3⟩:=h.2 y hy;obtain ⟨p,l⟩:=y;simp only at h1 h3 ⊢;cases p with
 | proc t=>
  obtain ⟨o,t,a,d,k⟩:=t;intro ho;obtain ⟨U,u1,u2,_⟩:=h3 ho;exact ⟨u1,u2⟩
 | exp t=> trivial
 | def_ t=>
  obtain ⟨f,t,j,d,k⟩:=t;simp only [Part.shaped,yB,Bool.or_eq_true,Bool.and_eq_true,beq_iff_eq,decide_eq_true_eq] at h1;show (ql j).length<=100000;rcases h1 with ⟨⟨⟨⟨_,_⟩,hj⟩,_⟩,_⟩ | ⟨⟨⟨⟨_,_⟩,hj⟩,_⟩,_⟩
  ·exact zns hj
  ·have:j= []:=List.eq_nil_of_length_eq_zero hj
   subst this;simp [ql]
def zdp (p:Part) (E:List (List UInt8)):Prop:=E.Nodup/\∀k,k∈E↔qE 60 p k=true
theorem zmI (B:Nat) (u:World) (op:Int) (t:ByteArray) (args:List Exp) (defs:List zg) (kids:List Term) (b:Nat) (cs:List Value) (w:World) (hu:zh B u w) (hB:B<=w.heap.size)
  (hf:zT (.proc (.mk op t args defs kids))) (hv:ze B u cs (.mk op t args defs kids)) (hc:zI w b 0 cs) (E:List (List UInt8)) (hE:zdp (.proc (.mk op t args defs kids)) E):
  Calls Tryz.prog 72 #[.pointer (some ⟨b,0,none⟩)] w fun e w'=> ∃v,e= .returned v/\zx w'.heap.size w' v ((E.mergeSort leB).map mkB)/\Below w.heap.size w w':=by
 have hv':=hv;unfold ze at hv;obtain ⟨hz,_,_,_,rfl,⟨a0,p0,rfl,_⟩,⟨a1,p1,rfl,_⟩,⟨a2,p2,rfl,_⟩⟩:=hv;obtain ⟨c0,c1,c2,c3,c4⟩:=zK hc;have hm:=xz B u _ (.iface 83 (.agg #[.int .i64 op, .string t, .slice a0 args.length p0, .slice a1 defs.length p1, .slice a2 kids.length p2])) w hu hB hf ⟨_,rfl,hv'⟩;have hms:=fun w1 (h1:zh B u w1) (h2:B<=w1.heap.size)=> zcs B u 60 _ hf.1 (by omega) hf.allSmall hf.allBind (.iface 83 (.agg #[.int .i64 op, .string t, .slice a0 args.length p0, .slice a1 defs.length p1, .slice a2 kids.length p2])) w1 ⟨_,rfl,hv'⟩ h1 h2;have hps:=hf.1;obtain ⟨N,hN⟩:∃N,N=(Part.proc (.mk op t args defs kids)).size:=⟨_,rfl⟩;obtain ⟨F,hF⟩:∃F,F=qE 60 (.proc (.mk op t args defs kids)):=⟨_,rfl⟩;unfold zdp at hE;rw [<-hF] at hms hE;rw [<-hN] at hms hps;clear hN hF hv';refine (callsIn_wide (n:=6)).1 ?_;have hF:∀k,Fence.wide.fn k:=fun _=> trivial;refine callsIn_of_wp Tryz.func72 rfl trivial ?_ rfl;simp only [Tryz.ntmps72,List.size_toArray,List.length_cons,List.length_nil,Nat.reduceAdd,Nat.reduceSub,Array.replicate_succ,Array.replicate_zero,List.push_toArray,List.append_toArray,List.nil_append,List.cons_append]
 gi_wp2_with (first
  | (gi_at_call 65;refine (callsIn_wide.2 hm).mono ?_;clear hm;rintro e w1 ⟨rfl,hb1⟩;obtain ⟨d0,d1,d2,d3,d4⟩:=zK (hc.below hb1 (zD c0)))
  | (gi_at_call 75;refine (callsIn_wide.2 (hms _ (hu.trans ((Below.keptC hb1).mono hB)) (by have:=hb1.size;omega))).mono ?_;clear hms;rintro e w2 ⟨b2,rfl,_,hset,hb2⟩)
  | (gi_at_call 74;refine (Tryz.maps_Keys_74 _ _).mono ?_;rintro e w' ⟨rfl,rfl⟩)
  | (gi_at_call 73;refine (hset.sorted_in (by omega) E hE.1 hE.2).mono ?_;rintro e w3 ⟨v,rfl,hs,hb3⟩))
 go_ret;exact ⟨_,rfl,hs,(hb1.trans (hb2.mono hb1.size)).trans (hb3.mono (by have:=hb1.size;have:=hb2.size;omega))⟩
theorem zx.setInt {B:Nat} {w:World} {v:Value} {ss:List ByteArray} (h:zx B w v ss) {b:Nat} {k:IntKind} {i:Int} (hc:w.cell? ⟨b,0,none⟩=some (.int k i)) (x:Value):zx B (w.setCell ⟨b,0,none⟩ x) v ss:=by
 obtain ⟨a,cap,rfl,hl,hz,hcap,h⟩:=h;refine ⟨a,cap,rfl,hl,hz,hcap,?_⟩;rcases h with h | ⟨c,off,rfl,hB,hs⟩
 ·exact .inl h
 ·refine .inr ⟨c,off,rfl,hB,fun j hj=> ?_⟩
  rw [World.cell?_setCell_other]
  ·exact hs j hj
  ·intro e
   have:=hs j hj;rw [<-e,hc] at this;cases this
theorem zno (B:Nat) (u:World) (t:Term) (cs:List Value) (w:World) (hu:zh B u w) (hB:B<=w.heap.size) (hf:zT (.proc t)) (hv:ze B u cs t) (E:List (List UInt8)) (hE:zdp (.proc t) E):
  Calls Tryz.prog 29 #[.agg cs.toArray] w fun e w'=> ∃v,e= .returned (.tuple #[v, .int .i64 0])/\zx w'.heap.size w' v ((E.mergeSort leB).map mkB)/\Below w.heap.size w w':=by
 obtain ⟨op,tx,args,defs,kids⟩:=t;have hv':=hv;unfold ze at hv;obtain ⟨hz,_,_,_,rfl,⟨a0,p0,rfl,_⟩,⟨a1,p1,rfl,_⟩,⟨a2,p2,rfl,_⟩⟩:=hv;have hmf:∀(fn:Fn) (first cap:Array Value) (w:World),(Instr.makeFunc fn first cap).run Tryz.prog w= .ok (.func fn first cap) w:=fun _ _ _ _=> rfl;obtain ⟨W1,hW1⟩:∃W1,W1=w.alloc (.cells #[.int .i64 op, .string tx, .slice a0 args.length p0, .slice a1 defs.length p1, .slice a2 kids.length p2] 33):=⟨_,rfl⟩;have b1:Below w.heap.size w W1:=by rw [hW1];exact ZQ w _
 have z1:W1.heap.size=w.heap.size + 1:=by rw [hW1];simp
 have cc:zI (W1.alloc (.cells #[.int .i64 0] 37)) w.heap.size 0 [.int .i64 op, .string tx, .slice a0 args.length p0, .slice a1 defs.length p1, .slice a2 kids.length p2]:=fun j hj=> by
  rw [ZP _ _ _ (by omega),hW1,ZA _ _ _ _ rfl]
  match j,hj with
  | 0,_=> rfl
  | 1,_=> rfl
  | 2,_=> rfl
  | 3,_=> rfl
  | 4,_=> rfl
 have b2:Below W1.heap.size W1 (W1.alloc (.cells #[.int .i64 0] 37)):=ZQ W1 _;have hw:=zmI B u op tx args defs kids w.heap.size _ (W1.alloc (.cells #[.int .i64 0] 37)) (hu.trans ((Below.keptC (b1.trans (b2.mono (by omega)))).mono hB)) (by simp;omega) hf hv' cc E hE
 have ha:=ziR 72 #[.pointer (some ⟨w.heap.size,0,none⟩)] W1 (fun v w'=> zx w'.heap.size w' v ((E.mergeSort leB).map mkB)) (enters_of Tryz.func72 (by kernel_rfl) rfl)
  (hw.mono fun e w' ⟨v,h1,h2,h3⟩=> ⟨v,h1,h2,h3.mono (by simp)⟩)
 have hcell:∀w1,Below (W1.heap.size + 1) (W1.alloc (.cells #[.int .i64 0] 37)) w1->w1.cell? ⟨W1.heap.size,0,none⟩=some (.int .i64 0):=fun w1 hb=>
  (hb.cell (p:=⟨W1.heap.size,0,none⟩) (by simp)).trans (by rw [ZA _ _ _ _ rfl];rfl)
 have HW:=ZH hW1;go_enter Tryz.func29,Tryz.ntmps29;clear hW1;go_wp2_with (go_at_call 71;rw [<-HW.out];refine ha.mono ?_;clear ha;rintro e w' ⟨v,w1,rfl,hs,hb,rfl⟩);go_ret2;exact ⟨_,rfl,by have h3:=hs.setInt (hcell w1 hb) (.int .i64 0);rw [z1] at h3;simpa using h3,b1.trans (((b2.trans (hb.mono (Nat.le_succ _))).setCell (by simp;omega) _).mono (by omega))⟩
end
section
open Go.RowKit Go.Shelf Go.Maps
attribute [local go_sem] Oper.semAt_some
def zbk (p:Part) (k:List UInt8):Bool:=(zR p).any (fun b=> k==zb b) || (!(zb (yA p)).isEmpty && k==zb (yA p))
def xW (p:Part) (k:List UInt8):Bool:=(zw 1 p).any (fun q=> zbk q.1 k)
theorem zfV {p:Part} (h:zca p):(zR p).length<=150000:=by
 cases p with
 | proc t=>
  obtain ⟨o,t,a,d,k⟩:=t;simp only [zR]
  split
  ·rename_i ho
   obtain ⟨u2,u3⟩:=h ho;have h1:=yR [] (zl (zm d));have h2:=yx d;unfold zZ at u2;rw [List.length_append];unfold qb;simp at h1;omega
  ·simp
 | exp t=> simp [zR]
 | def_ t=>
  obtain ⟨f,t,j,d,k⟩:=t;have h1:(ql j).length<=100000:=h;have h2:zR (.def_ (.mk f t j d k))=ql j:=rfl;rw [h2];omega
def GW (q:Part×Nat):Prop:=q.1.small/\zca q.1
def anyW {B:Nat} {u:World} (xs:List (Nd B u GW)) (k:List UInt8):Bool:=xs.any (fun x=> zbk x.1.2.1 k)
theorem zjT {B:Nat} {u:World} (xs:List (Nd B u GW)) (x:Nd B u GW) (k:List UInt8):anyW (xs ++ [x]) k=(anyW xs k || zbk x.1.2.1 k):=by simp [anyW]
theorem zc2 {w w':World} {x o b:Nat} {v:Value} (hv:w.cell? ⟨x,o,none⟩=some v) (g:w.grownBy w' (some b)) (hne:x≠b):w'.cell? ⟨x,o,none⟩=some v:=
 (ZB (w:=w) (g.block x (zD hv) (fun e=> hne (ZJ e)))).trans hv
def WInv (w:World) (B0:Nat) (W wq:World) (m:Nat) (f:List UInt8->Bool):Prop:=
 SetF wq w.heap.size m f/\KeepsFrom B0 W wq/\KpC w.heap.size (w.heap.size + 2) W wq/\wq.cell? ⟨w.heap.size + 1,0,none⟩=some (.map (some w.heap.size))/\Below w.heap.size w wq
theorem WInv.later {w:World} {B0:Nat} {W wq w':World} {m:Nat} {f:List UInt8->Bool} (h:WInv w B0 W wq m f) (hb:Below wq.heap.size wq w'):WInv w B0 W w' m f:=by
 obtain ⟨h1,h2,h3,h4,h5⟩:=h;exact ⟨h1.later hb,h2.trans ((KeepsOthers.of_below hb).from _),h3.trans (KpC.of_below hb),(hb.cell (p:=⟨_,0,none⟩) (zD h4)).trans h4,h5.trans (hb.mono h5.size)⟩
theorem WInv.congr {w:World} {B0:Nat} {W wq:World} {m m':Nat} {f f':List UInt8->Bool} (h:WInv w B0 W wq m f) (hm:m<=m') (e:∀k,f k=f' k):WInv w B0 W wq m' f':=by
 obtain ⟨h1,h2,h3,h4,h5⟩:=h;exact ⟨(h1.mono hm).congr e,h2,h3,h4,h5⟩
theorem WInv.turned {w:World} {B0:Nat} {W wq w':World} {m m':Nat} {f f':List UInt8->Bool} (h:WInv w B0 W wq m f) (hB0:w.heap.size < B0) (s:SetF w' w.heap.size m' f') (g:wq.grownBy w' (some w.heap.size)):WInv w B0 W w' m' f':=by
 obtain ⟨h1,h2,h3,h4,h5⟩:=h;refine ⟨s,h2.trans (KeepsFrom.of_grownBy g (fun j e=> by have:=ZJ e;omega)),h3.trans ⟨g.size,fun x o v hx hv=> ?_⟩,zc2 h4 g (by omega),h5.grown g h5.size (fun k e=> by have:=ZJ e;omega)⟩;exact zc2 hv g (fun e=> h1.cell_ne hv e)
set_option maxRecDepth 100000 in
theorem zeD (n B:Nat) (hn:3<=n) (u:World) (p:Part) (v:Value) (w:World) (hu:zh B u w) (hB:B<=w.heap.size) (hsm:p.allSmall) (hbd:p.allBind) (hps:p.size<=900) (hv:zY B u v p):
  CallsIn Fence.wide n Tryz.prog 85 #[v] w fun e w'=> ∃b,e= .returned (.map (some b))/\w.heap.size<=b/\SetF w' b 200000000 (xW p)/\Below w.heap.size w w':=by
 obtain ⟨ty,x,rfl⟩:=xa hv;have hdd:∀k:Nat,(Fence.wide.depth.isSome=true->1<=k):=fun k h=> by cases h
 have h1:1<=n:=by omega
 have hF:∀k,Fence.wide.fn k:=fun _=> trivial;have hmm:=@run_makeMap Tryz.prog
 have hG:∀q∈zw 1 p,GW q:=by
  intro q hq;have hq':q.1∈(zw 0 p).map (·.1):=by rw [qJ 0 1];exact List.mem_map.2 ⟨q,hq,rfl⟩
  exact ⟨hsm _ hq',hbd _ hq'⟩
 refine callsIn_of_wp_marks Tryz.func85 rfl trivial ?_ rfl;simp only [Tryz.ntmps85,List.size_toArray,List.length_cons,List.length_nil,Nat.reduceAdd,Nat.reduceSub,Array.replicate_succ,Array.replicate_zero,List.push_toArray,List.append_toArray,List.nil_append,List.cons_append]
 gi_wp2_with (gi_at_call 116;refine (zcI (n - 1) _ _ _).mono ?_;rintro e w' ⟨rfl,rfl⟩)
 obtain ⟨W0,hW0⟩:∃W0,W0=(((w.alloc (.map #[] 0)).alloc (.cells #[.map (some w.heap.size)] 70)).alloc (.cells #[.iface ty x] 154)):=⟨_,rfl⟩;have hsz:W0.heap.size=w.heap.size + 3:=by rw [hW0];simp
 have hb0:Below w.heap.size w W0:=by rw [hW0];exact ((ZQ w _).alloc (by simp) _).alloc (by simp;omega) _
 have c0:SetF W0 w.heap.size 0 (fun _=> false):=by
  rw [hW0];exact ((SetF.made w).kept (ZW _ _ none) (by simp)).kept (ZW _ _ none) (by simp)
 have c1:W0.cell? ⟨w.heap.size + 1,0,none⟩=some (.map (some w.heap.size)):=by
  rw [hW0,ZP _ _ _ (by simp),ZA _ _ _ _ (by simp)];rfl
 have c2:W0.cell? ⟨w.heap.size + 2,0,none⟩=some (.iface ty x):=by
  rw [hW0,ZA _ _ _ _ (by simp)];rfl
 rw [<-hW0];have HW:=ZH hW0;clear hW0;have hst:=zdC (n - 1) w.heap.size (w.heap.size + 2) (w.heap.size + 2) B u p _ GW hB (by omega) hsm hps hG hv W0 (hu.trans ((Below.keptC hb0).mono hB)) (by omega) c2
 refine wpIn_rangeFunc_ownG rfl h1 (gf:=157) (lb:=#[.pointer (some ⟨w.heap.size + 1 + 1,0,none⟩)]) rfl trivial (enters_of Tryz.func157 (by kernel_rfl) rfl)
  hst KpC.trans (fun W l o o' _ h1 h2 _=> KpC.putObj W l o o' h1 h2) (ZF _ _) (fun _=> rfl)
  (fun pre W=> (SetF W w.heap.size (pre.length * 200000) (anyW pre)/\W.cell? ⟨w.heap.size + 1,0,none⟩=some (.map (some w.heap.size)))/\Below w.heap.size w W)
  (fun _ _ _=> False)
  (OwnFrom.and (fun s X Y row hs hg hr=> ⟨hs.1.kept hg (fun e=> by have:=(hr _ e.symm).1;omega),cell_kept hs.2 hg (fun r e=> (hr r e).2)⟩) (ownFrom_below (ZL _) (by omega)))
  (fun _ _ _ _ _ hs _ _=> hs)
  ⟨⟨c0.mono (by omega),c1⟩,hb0⟩
  (fun x'=> { tmps:=#[.iface ty x,undef, .map none, .pointer (some ⟨w.heap.size + 1,0,none⟩),x'.1.1,undef,undef,undef, .map (some w.heap.size), .iface ty x, .func (.func 157) #[] #[.pointer (some ⟨w.heap.size + 1 + 1,0,none⟩)],x'.1.1, .int .i64 x'.1.2.2,undef,undef,undef,undef,undef,undef,undef,undef,undef,undef,undef,undef,undef,undef,undef,undef,undef],defers:= [] }) ?assign ?body ?done ?stop
 case assign=>
  intro l x W K hK;dsimp only [encN]
  gi_wp2
  exact hK
 case body=>
  rintro l pre ⟨⟨v',q,lv⟩,hvq,hGq⟩ W ⟨⟨hS,hbox⟩,hB'⟩ hN;have hany:=ZH (fun k=> zjT pre ⟨(v',q,lv),hvq,hGq⟩ k);obtain ⟨x',hx'⟩:∃x':Nd B u GW,x'=⟨(v',q,lv),hvq,hGq⟩:=⟨_,rfl⟩;rw [<-hx'] at hany;have e1:x'.1.1=v':=by rw [hx']
  have e2:x'.1.2.2=lv:=by rw [hx']
  have e3:x'.1.2.1=q:=by rw [hx']
  rw [<-hx',e1,e2];rw [e3] at hany;clear hx' e1 e2 e3;simp only at hvq hGq;obtain ⟨hsm',hbd'⟩:=hGq;have hz0:=zc7 B u q v' hvq;have hbl:=zfV hbd';obtain ⟨g1,g2,g3,cs,ty',rfl,hg,_,hbinds,hstands⟩:=zb8 B u q v' hsm' hbd' hvq
  have hm2:∀W,(method 347 ty' (.agg cs.toArray) "cabotage/term.binds").run Tryz.prog W= .ok (g2, .agg cs.toArray) W:=by
   rcases hg with ⟨rfl,rfl,rfl,rfl⟩ | ⟨rfl,rfl,rfl,rfl⟩ | ⟨rfl,rfl,rfl,rfl⟩ <;> exact fun W=> by kernel_rfl
  have hm3:∀W,(method 347 ty' (.agg cs.toArray) "cabotage/term.stands").run Tryz.prog W= .ok (g3, .agg cs.toArray) W:=by
   rcases hg with ⟨rfl,rfl,rfl,rfl⟩ | ⟨rfl,rfl,rfl,rfl⟩ | ⟨rfl,rfl,rfl,rfl⟩ <;> exact fun W=> by kernel_rfl
  have hc2:∀args w,(callFunc g2 args).run Tryz.prog w= .ok (.enter g2 args) w:=by
   rcases hg with ⟨rfl,rfl,rfl,rfl⟩ | ⟨rfl,rfl,rfl,rfl⟩ | ⟨rfl,rfl,rfl,rfl⟩
   ·exact enters_of Tryz.func215 (by kernel_rfl) rfl
   ·exact enters_of Tryz.func218 (by kernel_rfl) rfl
   ·exact enters_of Tryz.func229 (by kernel_rfl) rfl
  have hc3:∀args w,(callFunc g3 args).run Tryz.prog w= .ok (.enter g3 args) w:=by
   rcases hg with ⟨rfl,rfl,rfl,rfl⟩ | ⟨rfl,rfl,rfl,rfl⟩ | ⟨rfl,rfl,rfl,rfl⟩
   ·exact enters_of Tryz.func217 (by kernel_rfl) rfl
   ·exact enters_of Tryz.func220 (by kernel_rfl) rfl
   ·exact enters_of Tryz.func231 (by kernel_rfl) rfl
  have hp2:=hbinds W (hu.trans ((Below.keptC hB').mono hB)) (by have:=hB'.size;omega);have hI0:WInv w W0.heap.size W W (pre.length * 200000) (anyW pre):=⟨hS,KeepsFrom.refl _ _,KpC.refl _ _ _,hbox,hB'⟩;have hpre:pre.length<=900:=by omega
  have hWb:∀k,zbk q k=((zR q).any (fun b=> k==zb b) || (!(zb (yA q)).isEmpty && k==zb (yA q))):=fun _=> rfl;obtain ⟨F,hF0⟩:∃F,F=anyW pre:=⟨_,rfl⟩;rw [<-hF0] at hI0 hany;obtain ⟨WB,hWB⟩:∃F,F=zbk q:=⟨_,rfl⟩;rw [<-hWB] at hWb hany;obtain ⟨L,hL⟩:∃L,L=zR q:=⟨_,rfl⟩;rw [<-hL] at hp2 hWb hbl;obtain ⟨T,hT⟩:∃T,T=yA q:=⟨_,rfl⟩;rw [<-hT] at hstands hWb hz0;obtain ⟨M,hM⟩:∃M,M=pre.length * 200000:=⟨_,rfl⟩;rw [<-hM] at hI0;have hM':M<=180000000:=by omega
  have hM2:M + 200000=(pre ++ [x']).length * 200000:=by rw [List.length_append,hM];simp;omega
  have HWb:=ZH hWb;have HM2:=ZH hM2;clear hbinds hg hF0 hWB hL hT hM hWb hM2 hS hbox hvq hN hst hG
  gi_wp2_with (refine ⟨hdd _,?_⟩;refine (CallsIn.inRound l (callsIn_wide.2 hp2)).mono ?_;clear hp2;rintro e w3 ⟨r2,rfl,hs2,hb3⟩;obtain ⟨a2,cap2,rfl,hl2,hz2,_,hcells⟩:=hs2)
  have hI3:=hI0.later hb3;clear hI0
  gi_loopw [16] (fun i wq=> ∃(k:Nat),k<=L.length/\i= .int .i64 k/\WInv w W0.heap.size W wq (M + k) (fun x=> F x || (L.take k).any (fun b=> x==zb b))/\yr w3 wq) (fun i _=> L.length - (intOf i).toNat)
  case atStart=> exact ⟨0,by omega,rfl,hI3.congr (by omega) (fun x=> by simp),yr.refl _⟩
  case round=>
   obtain ⟨k,hk2,rfl,hIk,hKk⟩:=hrel;by_cases hlt:k < L.length
   ·rcases hcells with h0 | ⟨b,off,rfl,hb,hc⟩
    ·subst h0;simp at hlt
    have hcell:=hKk.2 _ _ _ (hc k hlt);have hzk:=hz2 _ (ZM hlt);have hany2:=ZH (fun x=> zdY L (fun b=> x==zb b) k hlt);obtain ⟨y,hy⟩:∃y,y=L[k]:=⟨_,rfl⟩;rw [<-hy] at hcell hzk hany2;have hbx:=hIk.2.2.2.1;obtain ⟨w5,r5,s5,g5⟩:=hIk.1.put (by unfold maxLen;omega) hzk;have hI5:=hIk.turned (by omega) s5 g5;have hK5:=hKk.turned hIk.1 g5;clear hy hc
    gi_wp2
    refine ⟨⟨k + 1,by omega,by go_num,hI5.congr (by omega) (fun x=> ?_),hK5⟩,by simp [intOf];omega⟩;rw [hany2.out x,Bool.or_assoc]
   ·obtain rfl:k=L.length:=by omega
    rw [List.take_length] at hIk;obtain ⟨wm,rfl⟩:∃wm:World,wm=wr:=⟨_,rfl⟩;have hp3:=hstands wm;clear hstands hcells hKk hb3 hI3
    have fin:∀(W':World) (m:Nat) (f:List UInt8->Bool),WInv w W0.heap.size W W' m f->m<=M + 200000->(∀k,f k=(F k || WB k))->
      KeepsFrom W0.heap.size W W'/\KpC w.heap.size (w.heap.size + 2) W W'/\(SetF W' w.heap.size ((pre ++ [x']).length * 200000) (anyW (pre ++ [x']))/\W'.cell? ⟨w.heap.size + 1,0,none⟩=some (.map (some w.heap.size)))/\Below w.heap.size w W':=by
     intro W' m f h hm hf;obtain ⟨h1,h2,h3,h4,h5⟩:=h;exact ⟨h2,h3,⟨(h1.mono (by rw [<-HM2.out];exact hm)).congr (fun k=> by rw [hany.out k];exact hf k),h4⟩,h5⟩
    cases hT0:T.toList.isEmpty with
    | true=>
     have hE:=zgB hT0
     gi_wp2_with (refine ⟨hdd _,?_⟩;refine (CallsIn.inRound l (callsIn_wide.2 hp3)).mono ?_;clear hp3;rintro e w6 ⟨rfl,hb6⟩)
     exact fin _ _ _ (hIk.later hb6) (by omega) (fun k=> by rw [HWb.out k,hE];simp)
    | false=>
     have hE:=zc6 hT0
     gi_wp2_with (refine ⟨hdd _,?_⟩;refine (CallsIn.inRound l (callsIn_wide.2 hp3)).mono ?_;clear hp3;rintro e w6 ⟨rfl,hb6⟩;have hI6:=hIk.later hb6;have hbx:=hI6.2.2.2.1;obtain ⟨w7,r7,s7,g7⟩:=hI6.1.put (by unfold maxLen;omega) hz0;have hI7:=hI6.turned (by omega) s7 g7)
     exact fin _ _ _ hI7 (by omega) (fun k=> by rw [HWb.out k,hE];simp [Bool.or_assoc])
 case done=>
  rintro D ys W hD hys ⟨⟨hS,hbox⟩,hB'⟩ hK
  have e1:∀k,anyW ys k=xW p k:=fun k=> by
   unfold anyW xW;rw [<-hys,List.any_map];rfl
  have e2:ys.length * 200000<=200000000:=by
   have:=congrArg List.length hys;rw [List.length_map,yP 1 0] at this;have h3:ys.length=p.size:=this;omega
  have E1:=ZH e1;have HYS:=ZH hys;clear e1 hys
  gi_wp2
  refine ⟨by simp, .inl ⟨_,_,rfl,run_takeDeferred hK,?_⟩⟩;have hDl:=(ZG hK).1;refine ⟨_,results_tmp rfl _ _ _,?_⟩;refine ⟨_,rfl,ZL _,?_,hB'.trans (belowK_b (w:=w) (ZL _) _ D _ _ (by omega) hK rfl rfl)⟩;exact ((hS.mono e2).congr E1.out).kept (grownBy_putObj' W D (.deferred none)) (fun e=> by have:=ZJ e;omega)
 case stop=>
  rintro D c pre W _ _ h _;exact h.elim
end
section
open Go.RowKit Go.Shelf
theorem zlL (a b:List ByteArray) (k:Nat) (h1:k < a.length) (h2:k < b.length):
  ((a.take (k + 1)).zip (b.take (k + 1))).all (fun p=> eqL p.1 p.2)=(((a.take k).zip (b.take k)).all (fun p=> eqL p.1 p.2) && eqL a[k] b[k]):=by
 rw [ZT h1,ZT h2,List.zip_append (by simp;omega),List.all_append];simp
theorem zgo (a b:List ByteArray) (k:Nat) (h1:k < a.length) (h2:k < b.length) (h:eqL a[k] b[k]=false):j3 a b=false:=by
 unfold j3
 have:(a.zip b).all (fun p=> eqL p.1 p.2)=false:=by
  rw [List.all_eq_false];refine ⟨(a[k],b[k]),?_,by simp [h]⟩;rw [List.mem_iff_getElem];exact ⟨k,by simp;omega,by simp⟩
 rw [this,Bool.and_false]
theorem zeF (B:Nat) (v1 v2:Value) (s1 s2:List ByteArray) (w:World) (hB:B<=w.heap.size) (h1:zx B w v1 s1) (h2:zx B w v2 s2):
  Calls Tryz.prog 31 #[v1,v2] w fun e w'=> e= .returned (.bool (j3 s1 s2))/\Below w.heap.size w w':=by
 obtain ⟨a1,c1,rfl,l1,z1,_,p1⟩:=h1;obtain ⟨a2,c2,rfl,l2,z2,_,p2⟩:=h2;by_cases hl:s1.length=s2.length
 ·have HL:=ZH hl
  have hd:¬((s1.length:Int)≠(s2.length:Int)):=by omega
  have hd':((s1.length:Int)=(s2.length:Int)):=by omega
  clear hl;go_enter Tryz.func31,Tryz.ntmps31;go_wp2
  go_loopw [5] (fun i wr=> ∃(k:Nat),k<=s1.length/\i= .int .i64 k/\((s1.take k).zip (s2.take k)).all (fun p=> eqL p.1 p.2)=true/\Below w.heap.size w wr) (fun i _=> s1.length - (intOf i).toNat)
  case atStart=> exact ⟨0,by omega,rfl,rfl,ZF _ _⟩
  case round=>
   obtain ⟨k,hk,rfl,hf,hb⟩:=hrel;have HF:=ZH hf;clear hf;by_cases hlt:k < s1.length
   ·have hlt2:k < s2.length:=by have:=HL.out;omega
    rcases p1 with h0 | ⟨b1,o1,rfl,hB1,hc1⟩
    ·subst h0;simp at hlt
    rcases p2 with h0 | ⟨b2,o2,rfl,hB2,hc2⟩
    ·subst h0;simp at hlt2
    have k1:=(hb.cell (p:=⟨b1,o1 + k,none⟩) (by simp;omega)).trans (hc1 k hlt);have k2:=(hb.cell (p:=⟨b2,o2 + k,none⟩) (by simp;omega)).trans (hc2 k hlt2);have hS:=ZH (zlL s1 s2 k hlt hlt2);have hN:=ZH (zgo s1 s2 k hlt hlt2);obtain ⟨x,hx⟩:∃x,x=s1[k]:=⟨_,rfl⟩;obtain ⟨y,hy⟩:∃y,y=s2[k]:=⟨_,rfl⟩;rw [<-hx] at k1 hS hN;rw [<-hy] at k2 hS hN;clear hx hy hc1 hc2;cases he:(x.toList==y.toList) with
    | true=>
     go_wp2
     go_quiet (fail)
     go_wp2;go_roundw
     case rel=> exact ⟨k + 1,by omega,by go_num,by rw [hS.out,HF.out];exact he,below_drewN hb _⟩
     case measure=> simp [intOf];omega
    | false=>
     go_wp2
     go_quiet (fail)
     go_wp2;go_ret;exact ⟨by rw [hN.out he];rfl,below_drewN hb _⟩
   ·obtain rfl:k=s1.length:=by omega
    go_wp2;go_ret;have e1:s2.take s1.length=s2:=List.take_of_length_le (by have:=HL.out;omega);have e2:=HF.out;rw [List.take_length,e1] at e2;exact ⟨by unfold j3;rw [e2];simp [HL.out],hb⟩
 ·have HL:=ZH hl
  have hd:¬((s1.length:Int)=(s2.length:Int)):=by omega
  clear hl;go_enter Tryz.func31,Tryz.ntmps31;go_wp2;go_ret;exact ⟨by unfold j3;simp [HL.out],ZF _ _⟩
def xn:List ByteArray:= [⟨#[97,110,100]⟩,⟨#[100,101,102]⟩,⟨#[101,108,115,101]⟩,⟨#[103,111]⟩,⟨#[105,102]⟩,⟨#[105,110]⟩,⟨#[112,108,97,99,101]⟩,⟨#[115,116,111,112]⟩,⟨#[116,104,101,110]⟩,⟨#[119,97,116,99,104]⟩]
def xv (s:ByteArray):Bool:=yJ s && !hasB xn s
theorem zb2 (s:ByteArray) (w:World) (hs:s.size<=maxLen):
  Calls Tryz.prog 15 #[.string s] w fun e w'=> e= .returned (.bool (xv s))/\Below w.heap.size w w':=by
 have hs':=hs;unfold maxLen at hs';by_cases h1:1<=s.size
 ·by_cases h2:s.size<=8
  ·have h1':¬((s.size:Int) < 1):=by omega
   have h2':¬(8 < (s.size:Int)):=by omega
   go_enter Tryz.func15,Tryz.ntmps15;go_wp2
   go_loop [3] (fun i=> ∃k:Nat,k<=s.size/\i= .int .i64 k/\zaf (s.data.toList.take k)=true) (fun i=> s.size - (intOf i).toNat)
   case atStart=> exact ⟨0,by omega,rfl,rfl⟩
   case round=>
    obtain ⟨k,hk,rfl,hf⟩:=hrel;have HF:=ZH hf;clear hf;by_cases hlt:k < s.size
    ·by_cases h3:s[k].toNat < 97
     ·have hF:=ZH (za9 s k hlt (by omega))
      have h3':((s[k].toNat:Int) < 97):=by omega
      go_wp2;go_ret;exact ⟨by unfold xv;rw [hF.out];rfl,ZF _ _⟩
     ·by_cases h4:122 < s[k].toNat
      ·have hF:=ZH (za9 s k hlt (by omega))
       have h3':¬((s[k].toNat:Int) < 97):=by omega
       have h4':(122 < (s[k].toNat:Int)):=by omega
       go_wp2;go_ret;exact ⟨by unfold xv;rw [hF.out];rfl,ZF _ _⟩
      ·have hF:=ZH (zdU s k hlt)
       have h3':¬((s[k].toNat:Int) < 97):=by omega
       have h4':¬(122 < (s[k].toNat:Int)):=by omega
       go_wp2
       go_round
       case rel=> exact ⟨k + 1,by omega,by go_num,by rw [hF.out,HF.out];simp;omega⟩
       case measure=> simp [intOf];omega
    ·obtain rfl:k=s.size:=by omega
     have hl:=HF.out;rw [List.take_of_length_le (by simp)] at hl;have hF:Hid (yJ s=true):=ZH (by unfold yJ;rw [hl];simp;omega);clear hl HF
     have hA:zx (w.alloc (.cells (zn xn).toArray 9)).heap.size (w.alloc (.cells (zn xn).toArray 9)) (.slice (some ⟨w.heap.size,0,none⟩) 10 10) xn:=by
      refine ⟨_,_,rfl,by decide,by decide,(by simp), .inr ⟨w.heap.size,0,rfl,by simp,fun j hj=> ?_⟩⟩;rw [ZA _ _ _ _ rfl];simp only [xn,List.length_cons,List.length_nil] at hj
      match j,hj with
      | 0,_ | 1,_ | 2,_ | 3,_ | 4,_ | 5,_ | 6,_ | 7,_ | 8,_ | 9,_=> rfl
     have hh:=zay _ _ xn s _ hA;go_wp2_with (go_at_call 36;refine hh.mono ?_;clear hh;rintro e w' ⟨rfl,rfl⟩);go_ret;exact ⟨by unfold xv;rw [hF.out];rfl,(ZF _ _).alloc (ZL _) _⟩
  ·have h1':¬((s.size:Int) < 1):=by omega
   have h2':(8 < (s.size:Int)):=by omega
   have hF:Hid (yJ s=false):=ZH (by unfold yJ;simp;omega);go_enter Tryz.func15,Tryz.ntmps15;go_wp2;go_ret;exact ⟨by unfold xv;rw [hF.out];rfl,ZF _ _⟩
 ·have h1':((s.size:Int) < 1):=by omega
  have hF:Hid (yJ s=false):=ZH (by unfold yJ;simp;omega);go_enter Tryz.func15,Tryz.ntmps15;go_wp2;go_ret;exact ⟨by unfold xv;rw [hF.out];rfl,ZF _ _⟩
theorem Tryz.results190:Tryz.f190.results=#[.cell 2 36]:=by kernel_rfl
theorem Tryz.results51:Tryz.f51.results=#[.cell 2 36]:=by kernel_rfl
theorem zdf (s:ByteArray) (w:World):Calls Tryz.prog 190 #[.string s] w fun e w'=> e= .returned (.agg #[.int .i64 2, .int .i64 0, .string s, .slice none 0 0])/\Below w.heap.size w w':=by
 go_enter Tryz.func190,Tryz.ntmps190;go_wp2;simp [bodyPost,results,Tryz.results190,go_sem];first | exact ZQ w _ | trace_state
theorem zez (s:ByteArray) (w:World):Calls Tryz.prog 51 #[.string s] w fun e w'=> e= .returned (.agg #[.int .i64 2, .int .i64 0, .string s, .slice none 0 0])/\Below w.heap.size w w':=by
 go_enter Tryz.func51,Tryz.ntmps51;go_wp2;simp [bodyPost,results,Tryz.results51,go_sem];first | exact ZQ w _ | trace_state
def zab:List UInt8->List UInt8
 | []=> [97]
 | c::cs=> if c.toNat < 122 then (c + 1)::cs else 97::zab cs
def yz (l:List UInt8):List UInt8:=(zab l.reverse).reverse
theorem zht:yz []= [97]:=rfl
theorem ziD (l:List UInt8) (c:UInt8) (h:c.toNat < 122):yz (l ++ [c])=l ++ [c + 1]:=by
 simp [yz,zab,h]
theorem zjv (l:List UInt8) (c:UInt8) (h:¬c.toNat < 122):yz (l ++ [c])=yz l ++ [97]:=by
 simp [yz,zab,h]
def BC (w:World) (B:Nat) (Y:List UInt8):Prop:=∀j,(h:j < Y.length)->w.cell? ⟨B,j,none⟩=some (.int .u8 (Y[j].toNat:Int))/\w.frozen? ⟨B,j,none⟩=false
theorem BC.set {w:World} {B:Nat} {Y:List UInt8} (h:BC w B Y) {k:Nat} (hk:k < Y.length) (x:UInt8):BC (w.setCell ⟨B,k,none⟩ (.int .u8 (x.toNat:Int))) B (Y.set k x):=by
 intro j hj;have hj':j < Y.length:=by simpa using hj
 refine ⟨?_,(World.frozen?_setCell _ _ _ _).trans (h j hj').2⟩;by_cases e:j=k
 ·subst e
  rw [World.cell?_setCell_same' _ _ _ (by rw [(h j hj').1];rfl)];simp
 ·rw [World.cell?_setCell_other]
  ·rw [(h j hj').1,List.getElem_set_ne (by omega)]
  ·intro h2;cases h2;exact e rfl
theorem zc0 (L:List UInt8) (k n:Nat) (hk:k < L.length) (hn:n=L.length) (x:UInt8):
  (L.take (k + 1) ++ List.replicate (n - (k + 1)) 97).set k x=L.take k ++ [x] ++ List.replicate (n - (k + 1)) 97:=by
 have e1:(L.take (k + 1)).length=k + 1:=by rw [List.length_take];omega
 have e2:(L.take k).length=k:=by rw [List.length_take];omega
 rw [List.set_append_left _ _ (by omega),ZT hk,List.set_append_right _ _ (by omega),e2];simp
theorem zgC (n k:Nat) (h:k < n):List.replicate (n - k) (97:UInt8)= [97] ++ List.replicate (n - (k + 1)) 97:=by
 rw [show n - k=(n - (k + 1)) + 1 by omega,List.replicate_succ];rfl
theorem ziP {a b:ByteArray} (h:a.data.toList=b.data.toList):a=b:=by
 obtain ⟨⟨a⟩⟩:=a;obtain ⟨⟨b⟩⟩:=b;simp at h;subst h;rfl
theorem zgn (s:ByteArray) (w:World) (hs:s.size<=1000000):
  Calls Tryz.prog 155 #[.string s] w fun e w'=> e= .returned (.string (mkB (yz (zb s))))/\Below w.heap.size w w':=by
 obtain ⟨L,hL⟩:∃L,L=zb s:=⟨_,rfl⟩;have hn:s.size=L.length:=by rw [hL];show s.data.size=s.data.toList.length;simp
 have hconv:=run_bytes_of_string (P:=Tryz.prog) w 9 146 5 s Tryz.underlying9 Tryz.underlying146 Tryz.underlying5;obtain ⟨cap,hcap⟩:∃cap,cap=grownCap w s.size 0 5:=⟨_,rfl⟩;rw [<-hcap] at hconv;obtain ⟨W1,hW1⟩:∃W1,W1=(w.drew.alloc (.cells (bytesRow s cap) 5 ((bytesRow s cap).size,(bytesRow s cap).size + 1))):=⟨_,rfl⟩;rw [<-hW1] at hconv;have hb1:Below w.heap.size w W1:=by rw [hW1];exact ((ZF _ w).drew).alloc (by simp) _
 have hbc:BC W1 w.heap.size L:=by
  intro j hj;rw [hW1];refine ⟨?_,?_⟩
  ·have h1:=World.cell?_alloc_mark w.drew (bytesRow s cap) 5 ((bytesRow s cap).size,(bytesRow s cap).size + 1) j
   have hj':j < s.data.size:=by rw [hL] at hj;simpa [zb] using hj
   rw [bytesRow_at s cap j hj'] at h1;subst hL;exact h1
  ·have h1:=World.frozen?_alloc_mark w.drew (bytesRow s cap) 5 (bytesRow s cap).size ((bytesRow s cap).size + 1) j
   have hj':j < (bytesRow s cap).size:=by
    have hj2:j < s.data.size:=by rw [hL] at hj;simpa [zb] using hj
    exact (ZG (bytesRow_at s cap j hj2)).1
   rw [show decide ((bytesRow s cap).size<=j)=false by simp;omega] at h1;exact h1
 rw [hn] at hconv hs
 have hback:∀(W:World) (Y:List UInt8),Y.length=L.length->BC W w.heap.size Y->(convert 146 9 (.slice (some ⟨w.heap.size,0,none⟩) L.length cap)).run Tryz.prog W= .ok (.string (mkB Y)) W:=by
  intro W Y hY hc;rw [<-hY];refine run_convert_bytes_back W 146 9 5 ⟨w.heap.size,0,none⟩ cap Y Tryz.underlying146 Tryz.underlying5 Tryz.underlying9 (fun j hj=> ?_);have e:(⟨w.heap.size,0,none⟩:Addr).add j=⟨w.heap.size,j,none⟩:=by unfold Addr.add;by_cases h:j=0 <;> simp [h]
  rw [e];exact (hc j hj).1
 have HL:=ZH hL;clear hW1 hcap hn hL;go_enter Tryz.func155,Tryz.ntmps155;go_wp2
 go_loopw [4] (fun i wr=> ∃(m:Nat),m<=L.length/\i= .int .i64 ((m:Int) - 1)/\BC wr w.heap.size (L.take m ++ List.replicate (L.length - m) 97)/\yz L=yz (L.take m) ++ List.replicate (L.length - m) 97/\Below w.heap.size w wr) (fun i _=> (intOf i + 1).toNat)
 case atStart=> exact ⟨L.length,ZL _,by first | rfl | go_num,by simpa using hbc,by simp,hb1⟩
 case round=>
  obtain ⟨m,hm,rfl,hc,hf,hb⟩:=hrel;have HF:=ZH hf;clear hf;cases m with
  | zero=>
   simp only [List.take_zero,Nat.sub_zero,List.nil_append] at hc HF;have hk:=hback _ _ (by simp) hc
   have hsz:¬9223372036854775807 < 1 + (mkB (List.replicate L.length 97)).size:=by
    have:(mkB (List.replicate L.length 97)).size=L.length:=by show (List.replicate L.length 97).toArray.size=_;simp
    omega
   go_wp2;go_ret;refine ⟨?_,hb⟩;rw [<-HL.out,HF.out];show Ending.returned (.string ((⟨#[97]⟩:ByteArray) ++ mkB (List.replicate L.length 97)))=_
   have e:(⟨#[97]⟩:ByteArray) ++ mkB (List.replicate L.length 97)=mkB ([97] ++ List.replicate L.length 97):=by
    apply ziP;simp [mkB]
   rw [e,zht]
  | succ k=>
   have hk:k < L.length:=by omega
   rw [show (((k + 1:Nat):Int) - 1)=(k:Int) by omega];have hlen:(L.take (k + 1) ++ List.replicate (L.length - (k + 1)) 97).length=L.length:=by simp;omega
   have hck:=hc k (by omega)
   have hget:(L.take (k + 1) ++ List.replicate (L.length - (k + 1)) 97)[k]'(by omega)=L[k]:=by
    rw [List.getElem_append_left (by simp;omega)];simp
   rw [hget] at hck;obtain ⟨hk1,hk2⟩:=hck;have htk:=ZT hk;obtain ⟨c,hcc⟩:∃c,c=L[k]:=⟨_,rfl⟩;rw [<-hcc] at hk1 htk;by_cases hlt:c.toNat < 122
   ·have h1:((c.toNat:Int) < 122):=by omega
    have hw8:IntKind.u8.wrap ((c.toNat:Int) + 1)=(c.toNat:Int) + 1:=by
     unfold IntKind.wrap;simp [IntKind.bits,IntKind.signed];omega
    have hc1:((c + 1).toNat:Int)=(c.toNat:Int) + 1:=by
     rw [UInt8.toNat_add];simp;omega
    have hset:=hc.set (by omega:k < _) (c + 1);rw [zc0 L k _ hk rfl,hc1] at hset;have hk3:=hback _ _ (by simp;omega) hset;have hres:Hid (yz L=L.take k ++ [c + 1] ++ List.replicate (L.length - (k + 1)) 97):=ZH (by rw [HF.out,htk,ziD _ _ hlt]);clear hset hc hget hlen HF htk hcc;go_wp2;go_ret;exact ⟨by rw [<-HL.out,hres.out,List.append_assoc];rfl,hb.setCell (by simp) _⟩
   ·have h1:¬((c.toNat:Int) < 122):=by omega
    have hset:=hc.set (by omega:k < _) 97;rw [zc0 L k _ hk rfl] at hset;have hres:Hid (yz L=yz (L.take k) ++ [97] ++ List.replicate (L.length - (k + 1)) 97):=ZH (by rw [HF.out,htk,zjv _ _ hlt]);clear hc hget hlen HF htk hcc;go_wp2;go_roundw
    case rel=> exact ⟨k,by omega,by go_num,by rw [zgC L.length k hk];simpa [List.append_assoc] using hset,by rw [hres.out,zgC L.length k hk];simp [List.append_assoc],hb.setCell (by simp) _⟩
    case measure=> simp [intOf]
def jf (l:List UInt8):Prop:=∀c∈l,97<=c.toNat/\c.toNat<=122
def valR:List UInt8->Nat
 | []=> 0
 | c::cs=> (c.toNat - 96) + 26 * valR cs
def valL (l:List UInt8):Nat:=valR l.reverse
theorem zdL:∀l:List UInt8,jf l->valR (zab l)=valR l + 1/\jf (zab l)
 | [],_=> ⟨rfl,by intro c hc;simp [zab] at hc;subst hc;decide⟩
 | c::cs,h=> by
  have hc:=h c (by simp);have hcs:jf cs:=fun d hd=> h d (by simp [hd]);unfold zab
  split
  ·rename_i hlt
   have e:(c + 1).toNat=c.toNat + 1:=by rw [UInt8.toNat_add];simp;omega
   refine ⟨by simp only [valR,e];omega,?_⟩;intro d hd;rcases List.mem_cons.1 hd with hd | hd
   ·subst hd;omega
   ·exact hcs d hd
  ·obtain ⟨h1,h2⟩:=zdL cs hcs
   refine ⟨by simp only [valR,h1];have:(97:UInt8).toNat=97:=rfl;omega,?_⟩;intro d hd;rcases List.mem_cons.1 hd with hd | hd
   ·subst hd;decide
   ·exact h2 d hd
theorem zhD (l:List UInt8) (h:jf l):valL (yz l)=valL l + 1/\jf (yz l):=by
 have hr:jf l.reverse:=fun c hc=> h c (List.mem_reverse.1 hc);obtain ⟨h1,h2⟩:=zdL l.reverse hr;refine ⟨by simp [valL,yz,h1],fun c hc=> h2 c ?_⟩;simpa [yz] using hc
theorem ziw:∀l:List UInt8,jf l->l.length<=valR l
 | [],_=> ZL _
 | c::cs,h=> by
  have hc:=h c (by simp);have:=ziw cs (fun d hd=> h d (by simp [hd]));simp only [valR,List.length_cons];omega
theorem zha:∀(l:List UInt8),jf l->∀m,l.length=m + 1->26 ^ m<=valR l
 | [],_,m,h=> by simp at h
 | c::cs,h,m,hm=> by
  have hc:=h c (by simp);cases m with
  | zero=> simp only [valR];omega
  | succ m=>
   have:=zha cs (fun d hd=> h d (by simp [hd])) m (by simpa using hm);simp only [valR,Nat.pow_succ];omega
theorem zim:∀(l:List UInt8),jf l->valR l < 27 ^ l.length
 | [],_=> by simp [valR]
 | c::cs,h=> by
  have hc:=h c (by simp);have:=zim cs (fun d hd=> h d (by simp [hd]));simp only [valR,List.length_cons,Nat.pow_succ];omega
def strN:Nat->List UInt8
 | 0=> [97]
 | n + 1=> yz (strN n)
theorem jN:∀n,valL (strN n)=n + 1/\jf (strN n)
 | 0=> ⟨rfl,by intro c hc;simp [strN] at hc;subst hc;decide⟩
 | n + 1=> by
  obtain ⟨h1,h2⟩:=jN n;obtain ⟨h3,h4⟩:=zhD _ h2;exact ⟨by show valL (yz _)=_;rw [h3,h1],h4⟩
theorem zfR {n:Nat} (h:8 < (strN n).length):100000<=n:=by
 obtain ⟨h1,h2⟩:=jN n;have hr:jf (strN n).reverse:=fun c hc=> h2 c (List.mem_reverse.1 hc);obtain ⟨m,hm⟩:∃m,(strN n).reverse.length=m + 1:=⟨(strN n).length - 1,by rw [List.length_reverse];omega⟩;have h3:=zha _ hr m hm;have h4:8<=m:=by rw [List.length_reverse] at hm;omega
 have h5:26 ^ 8<=26 ^ m:=Nat.pow_le_pow_right (by decide) h4;have h6:valR (strN n).reverse=n + 1:=h1;have h7:(26:Nat) ^ 8=208827064576:=by decide
 omega
theorem ziE {n:Nat} (h:(strN n).length<=8):n < 300000000000:=by
 obtain ⟨h1,h2⟩:=jN n;have hr:jf (strN n).reverse:=fun c hc=> h2 c (List.mem_reverse.1 hc);have h3:=zim _ hr;have h4:27 ^ (strN n).reverse.length<=27 ^ 8:=Nat.pow_le_pow_right (by decide) (by rw [List.length_reverse];exact h);have h6:valR (strN n).reverse=n + 1:=h1;have h7:(27:Nat) ^ 8=282429536481:=by decide
 omega
theorem zfE:∀n,(strN n).length<=n + 1:=fun n=> by
 obtain ⟨h1,h2⟩:=jN n;have hr:jf (strN n).reverse:=fun c hc=> h2 c (List.mem_reverse.1 hc);have h3:=ziw _ hr;have h6:valR (strN n).reverse=n + 1:=h1;rw [List.length_reverse] at h3;omega
end
end Go.Proofs.YtjmlaeofjjhfmaaGreat
