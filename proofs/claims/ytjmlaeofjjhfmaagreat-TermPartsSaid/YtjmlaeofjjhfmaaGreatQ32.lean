/- Lemmas. -/
import Derived.Test.YtjmlaeofjjhfmaaGreatQ08
import Derived.Test.YtjmlaeofjjhfmaaGreatQ31
import Derived.Test.YtjmlaeofjjhfmaaGreatQ29
import Derived.Test.YtjmlaeofjjhfmaaGreatQ09
import Derived.Test.YtjmlaeofjjhfmaaGreatQ25
import Derived.Test.YtjmlaeofjjhfmaaGreatQ27
import Derived.Test.YtjmlaeofjjhfmaaGreatQ13
import Derived.Test.YtjmlaeofjjhfmaaGreatQ12
import Derived.Test.YtjmlaeofjjhfmaaGreatQ19
set_option linter.unusedVariables false
set_option linter.unusedSimpArgs false
set_option maxRecDepth 10000
set_option maxHeartbeats 16000000
namespace Go.Proofs.YtjmlaeofjjhfmaaGreat
section
open Go.RowKit Go.Shelf
theorem zfm (B:Nat) (u:World) (p:Part) (v:Value) (w:World) (hu:zh B u w) (hB:B<=w.heap.size) (hf:¬zT p) (hv:zY B u v p):
  Calls Tryz.prog 65 #[v] w fun e w'=> e= .panicked (yn 2)/\Below w.heap.size w w':=
 (zd1 B u p v w hu hB hv).mono fun _ _ ⟨h,hb⟩=> ⟨h.elim (fun h=> absurd h.1 hf) (fun h=> h.2),hb⟩
theorem zjR (B:Nat) (u:World) (p:Part) (v:Value) (w:World) (hu:zh B u w) (hB:B<=w.heap.size) (hf:¬zT p) (hv:zY B u v p):
  Calls Tryz.prog 68 #[v] w fun e w'=> e= .returned (.int .i64 2)/\Below w.heap.size w w':=by
 obtain ⟨ty,x,rfl⟩:=xa hv;have hmf:∀(fn:Fn) (first cap:Array Value) (w:World),(Instr.makeFunc fn first cap).run Tryz.prog w= .ok (.func fn first cap) w:=fun _ _ _ _=> rfl;obtain ⟨W1,hW1⟩:∃W1,W1=w.alloc (.cells #[.iface ty x] 154):=⟨_,rfl⟩;have b1:Below w.heap.size w W1:=by rw [hW1];exact ZQ w _
 have z1:W1.heap.size=w.heap.size + 1:=by rw [hW1];simp
 have cc:(W1.alloc (.cells #[.int .i64 0] 37)).cell? ⟨w.heap.size,0,none⟩=some (.iface ty x):=by
  rw [ZP _ _ _ (by omega),hW1,ZA _ _ _ _ rfl];rfl
 have b2:Below W1.heap.size W1 (W1.alloc (.cells #[.int .i64 0] 37)):=ZQ W1 _;have hm:=zfm B u p _ (W1.alloc (.cells #[.int .i64 0] 37)) (hu.trans ((Below.keptC (b1.trans (b2.mono (by omega)))).mono hB)) (by simp;omega) hf hv;have HW:=ZH hW1;clear hW1
 have hw:Calls Tryz.prog 120 #[.pointer (some ⟨w.heap.size,0,none⟩)] (W1.alloc (.cells #[.int .i64 0] 37)) fun e w'=> e= .panicked (yn 2)/\Below (W1.heap.size + 1) (W1.alloc (.cells #[.int .i64 0] 37)) w':=by
  go_enter Tryz.func120,Tryz.ntmps120;go_wp2_with (go_at_call 65;refine hm.mono ?_;clear hm;rintro e w1 ⟨rfl,hb1⟩);exact ⟨rfl,rfl,hb1.mono (by simp)⟩
 have ha:=zfn 120 #[.pointer (some ⟨w.heap.size,0,none⟩)] 2 W1 (enters_of Tryz.func120 (by kernel_rfl) rfl) hw;go_enter Tryz.func68,Tryz.ntmps68;clear hw;go_wp2_with (go_at_call 119;rw [<-HW.out];refine ha.mono ?_;clear ha;rintro e w' ⟨rfl,hb⟩);go_ret;exact ⟨rfl,b1.trans (hb.mono (by omega))⟩
theorem zln (B:Nat) (u:World) (t:Term) (cs:List Value) (w:World) (hu:zh B u w) (hB:B<=w.heap.size) (hf:¬zT (.proc t)) (hv:ze B u cs t):
  Calls Tryz.prog 25 #[.agg cs.toArray] w fun e w'=> e= .returned (.int .i64 2)/\Below w.heap.size w w':=by
 obtain ⟨op,tx,args,defs,kids⟩:=t;have hv':=hv;unfold ze at hv;obtain ⟨hz,_,_,_,rfl,⟨a0,p0,rfl,_⟩,⟨a1,p1,rfl,_⟩,⟨a2,p2,rfl,_⟩⟩:=hv;have b1:Below w.heap.size w (w.alloc (.cells #[.int .i64 op, .string tx, .slice a0 args.length p0, .slice a1 defs.length p1, .slice a2 kids.length p2] 33)):=ZQ w _;have hm:=zjR B u (.proc (.mk op tx args defs kids)) (.iface 83 (.agg #[.int .i64 op, .string tx, .slice a0 args.length p0, .slice a1 defs.length p1, .slice a2 kids.length p2])) _ (hu.trans ((Below.keptC b1).mono hB)) (by simp;omega) hf ⟨_,rfl,hv'⟩;go_enter Tryz.func25,Tryz.ntmps25;go_wp2_with (go_at_call 68;refine hm.mono ?_;clear hm;rintro e w1 ⟨rfl,hb1⟩);go_ret;exact ⟨rfl,b1.trans (hb1.mono (by simp))⟩
end
section
open Go.RowKit Go.Shelf Go.Maps Go.Sort

def opT:Term->Int
 | .mk o _ _ _ _=> o
def defT:Term->List zg
 | .mk _ _ _ d _=> d
def zjp (t:Term):Int:=if zL (.proc t) then (if opT t=4 then 0 else 5) else 2
def dCh (t:Term):List ByteArray:=if zL (.proc t)/\opT t=4 then qb (defT t) else []
def dPl (t:Term):List ByteArray:=if zL (.proc t)/\opT t=4 then zi (defT t) else []
def DOut (t:Term) (w:World) (e:Ending) (w':World):Prop:=∃v1 v2,e= .returned (.tuple #[v1,v2, .int .i64 (zjp t)])/\zx w'.heap.size w' v1 (dCh t)/\zx w'.heap.size w' v2 (dPl t)/\Below w.heap.size w w'
theorem DOut.no {t:Term} (h:zL (.proc t)=false) {w w':World} (hb:Below w.heap.size w w'):DOut t w (.returned (.tuple #[.slice none 0 0, .slice none 0 0, .int .i64 2])) w':=
 ⟨_,_,by rw [zjp,h];rfl,by rw [dCh,h];exact zx.nil _ _,by rw [dPl,h];exact zx.nil _ _,hb⟩
theorem DOut.op {t:Term} (h:zL (.proc t)=true) (ho:opT t≠4) {w w':World} (hb:Below w.heap.size w w'):DOut t w (.returned (.tuple #[.slice none 0 0, .slice none 0 0, .int .i64 5])) w':=
 ⟨_,_,by rw [zjp,h,if_pos rfl,if_neg ho],by rw [dCh,if_neg (fun k=> ho k.2)];exact zx.nil _ _,by rw [dPl,if_neg (fun k=> ho k.2)];exact zx.nil _ _,hb⟩
end
section
open Go.RowKit Go.Shelf Go.Maps
theorem zfl (L:List ByteArray):j3 L L=true:=by
 unfold j3;simp only [beq_self_eq_true,Bool.true_and,List.all_eq_true];intro p hp
 have:p.1=p.2:=by
  induction L with
  | nil=> simp at hp
  | cons a l ih=>
   simp only [List.zip_cons_cons,List.mem_cons] at hp;rcases hp with rfl | hp
   ·rfl
   ·exact ih hp
 rw [this];simp [eqL]
end
section
open Go.RowKit
theorem zkv (s:Nat) (ihT:zfe s) (ihC:zfy s) (form:Int) (text:ByteArray) (joins:List Msg) (defs:List zg) (kids:List Term) (hs:(Part.def_ (.mk form text joins defs kids)).size<=s + 1) (B:Nat) (u w:World) (c1 c2:List Value) (hu:zh B u w) (hBl:B<=w.heap.size)
  (hv1:zo B u c1 (.mk form text joins defs kids)) (hv2:zo B u c2 (.mk form text joins defs kids)):
  Calls Tryz.prog 90 #[.agg c1.toArray, .agg c2.toArray] w fun e w'=> e= .returned (.bool true)/\Below w.heap.size w w':=by
 unfold zo at hv1 hv2;obtain ⟨hz,_,_,_,rfl,⟨a0,p0,rfl,l0,h0⟩,⟨a1,p1,rfl,l1,h1⟩,⟨a2,p2,rfl,l2,h2⟩⟩:=hv1;obtain ⟨_,_,_,_,rfl,⟨b0',q0,rfl,_,g0⟩,⟨b1',q1,rfl,_,g1⟩,⟨b2',q2,rfl,_,g2⟩⟩:=hv2;obtain ⟨W1,hW1⟩:∃W1,W1=(w.alloc (.cells #[.int .i64 form, .string text, .slice a0 joins.length p0, .slice a1 defs.length p1, .slice a2 kids.length p2] 130)).alloc (.cells #[.int .i64 form, .string text, .slice b0' joins.length q0, .slice b1' defs.length q1, .slice b2' kids.length q2] 130):=⟨_,rfl⟩;have z1:W1.heap.size=w.heap.size + 2:=by rw [hW1];simp
 have b1:Below w.heap.size w W1:=by rw [hW1];exact (ZQ w _).alloc (by simp) _
 have hrd:∀W,Below (w.heap.size + 2) W1 W->zh B u W/\B<=W.heap.size/\Below w.heap.size w W:=by
  intro W h;have hb:=b1.trans (h.mono (by omega));exact ⟨hu.trans ((Below.keptC hb).mono hBl),by have:=hb.size;omega,hb⟩
 have hrd2:∀W,Below (w.heap.size + 2) W1 W->W.cell? ⟨w.heap.size,2,none⟩=some (.slice a0 joins.length p0)/\W.cell? ⟨w.heap.size + 1,2,none⟩=some (.slice b0' joins.length q0)/\zh B u W:=by
  intro W h;refine ⟨(h.cell (p:=⟨w.heap.size,2,none⟩) (by simp)).trans ?_,(h.cell (p:=⟨w.heap.size + 1,2,none⟩) (by simp)).trans ?_,(hrd W h).1⟩
  ·rw [hW1,ZP _ _ _ (by simp),ZA _ _ _ _ rfl];rfl
  ·rw [hW1,ZA _ _ _ _ (by simp)];rfl
 have hrd3:∀W,Below (w.heap.size + 2) W1 W->W.cell? ⟨w.heap.size,3,none⟩=some (.slice a1 defs.length p1)/\W.cell? ⟨w.heap.size + 1,3,none⟩=some (.slice b1' defs.length q1)/\zh B u W:=by
  intro W h;refine ⟨(h.cell (p:=⟨w.heap.size,3,none⟩) (by simp)).trans ?_,(h.cell (p:=⟨w.heap.size + 1,3,none⟩) (by simp)).trans ?_,(hrd W h).1⟩
  ·rw [hW1,ZP _ _ _ (by simp),ZA _ _ _ _ rfl];rfl
  ·rw [hW1,ZA _ _ _ _ (by simp)];rfl
 have hrd4:∀W,Below (w.heap.size + 2) W1 W->W.cell? ⟨w.heap.size,4,none⟩=some (.slice a2 kids.length p2)/\W.cell? ⟨w.heap.size + 1,4,none⟩=some (.slice b2' kids.length q2)/\zh B u W:=by
  intro W h;refine ⟨(h.cell (p:=⟨w.heap.size,4,none⟩) (by simp)).trans ?_,(h.cell (p:=⟨w.heap.size + 1,4,none⟩) (by simp)).trans ?_,(hrd W h).1⟩
  ·rw [hW1,ZP _ _ _ (by simp),ZA _ _ _ _ rfl];rfl
  ·rw [hW1,ZA _ _ _ _ (by simp)];rfl
 have hkd:∀k,(h:k < defs.length)->(Part.def_ defs[k]).size<=s:=fun k h=> by
  have:=qi (p:= .def_ (.mk form text joins defs kids)) (q:= .def_ defs[k]) (ji (ZM h));omega
 have hkk:∀k,(h:k < kids.length)->∀(B:Nat) (u w:World) (c1 c2:List Value),zh B u w->B<=w.heap.size->ze B u c1 kids[k]->ze B u c2 kids[k]->
   Calls Tryz.prog 34 #[.agg c1.toArray, .agg c2.toArray] w fun e w'=> e= .returned (.bool true)/\Below w.heap.size w w':=fun k h=> ihT kids[k] (by
  have:=qi (p:= .def_ (.mk form text joins defs kids)) (q:= .proc kids[k]) (jl (ZM h));omega)
 have HW:=ZH hW1;clear hW1 hs;go_enter Tryz.func90,Tryz.ntmps90;go_wp2;rw [<-HW.out]
 go_loopw [5] (fun i wr=> ∃(k:Nat),k<=joins.length/\i= .int .i64 k/\Below (w.heap.size + 2) W1 wr) (fun i _=> joins.length - (intOf i).toNat)
 case atStart=> exact ⟨0,by omega,rfl,ZF _ _⟩
 case round=>
  obtain ⟨k,hk,rfl,hb⟩:=hrel;obtain ⟨m0,m1,hu1⟩:=hrd2 wr hb;obtain ⟨hu1,hB1,hbw⟩:=hrd wr hb;by_cases hlt:k < joins.length
  ·rcases h0 with h0 | ⟨b0,o0,rfl,hB0,hc0⟩
   ·rw [h0] at hlt;simp at hlt
   rcases g0 with h1 | ⟨b2,o2,rfl,hB2,hc2⟩
   ·rw [h1] at hlt;simp at hlt
   obtain ⟨d1,e1,f1⟩:=hc0.get joins b0 o0 k hlt;obtain ⟨d2,e2,f2⟩:=hc2.get joins b2 o2 k hlt;obtain ⟨tj,htj⟩:∃x,x=joins[k].text:=⟨_,rfl⟩;obtain ⟨nj,hnj⟩:∃x,x=joins[k].names:=⟨_,rfl⟩;obtain ⟨tz,v1,rfl,st1⟩:=f1;obtain ⟨_,v2,rfl,st2⟩:=f2;rw [<-htj] at e1 e2 tz;rw [<-hnj] at st1 st2;have st1':=st1;have st2':=st2;obtain ⟨ja0,jp0,rfl,jl0,_⟩:=st1;obtain ⟨ja1,jp1,rfl,jl1,_⟩:=st2
   have hS:∀W,Below (w.heap.size + 2) W1 W->W.cell? ⟨w.heap.size,2,none⟩=some (.slice (some ⟨b0,o0,none⟩) joins.length p0)/\W.cell? ⟨w.heap.size + 1,2,none⟩=some (.slice (some ⟨b2,o2,none⟩) joins.length q0)/\
     (W.cell? ⟨b0,o0 + k * 2,none⟩=some (.string tj)/\W.cell? ⟨b0,o0 + k * 2 + 1,none⟩=some (.slice ja0 nj.length jp0))/\W.cell? ⟨b2,o2 + k * 2,none⟩=some (.string tj)/\W.cell? ⟨b2,o2 + k * 2 + 1,none⟩=some (.slice ja1 nj.length jp1):=fun W h=> by
    obtain ⟨y0,y1,hu2⟩:=hrd2 W h;exact ⟨y0,y1,yO (e1.keep hu2 hB0),yO (e2.keep hu2 hB2)⟩
   have hcall:∀W,Below (w.heap.size + 2) W1 W->Calls Tryz.prog 31 #[.slice ja0 nj.length jp0, .slice ja1 nj.length jp1] W fun e w'=> e= .returned (.bool true)/\Below W.heap.size W w':=fun W h=> by
    obtain ⟨q1,q2,_⟩:=hrd W h;have:=zeF B _ _ nj nj W q2 (st1'.keep q1) (st2'.keep q1)
    rwa [zfl] at this
   obtain ⟨_,_,⟨z2,z3⟩,z4,z5⟩:=hS wr hb;have hbd:=hb.drew;obtain ⟨y0,y1,⟨y2,y3⟩,y4,y5⟩:=hS _ hbd;clear hc0 hc2 htj hnj st1' st2';have hc31:=hcall _ hbd;go_wp2
   go_region_held3 (fun W=> W.cell? ⟨w.heap.size,2,none⟩=some (.slice (some ⟨b0,o0,none⟩) joins.length p0)/\W.cell? ⟨w.heap.size + 1,2,none⟩=some (.slice (some ⟨b2,o2,none⟩) joins.length q0)/\
     W.cell? ⟨b0,o0 + k * 2,none⟩=some (.string tj)/\W.cell? ⟨b0,o0 + k * 2 + 1,none⟩=some (.slice ja0 nj.length jp0)/\W.cell? ⟨b2,o2 + k * 2,none⟩=some (.string tj)/\W.cell? ⟨b2,o2 + k * 2 + 1,none⟩=some (.slice ja1 nj.length jp1)) (go_keep)
    (first | (go_at_call 31;refine hc31.mono ?_;rintro e w2 ⟨rfl,hb2⟩;have hbd2:=hbd.trans (hb2.mono (by simp;have:=hb.size;omega));obtain ⟨yy0,yy1,⟨yy2,yy3⟩,yy4,yy5⟩:=hS w2 hbd2))
   all_goals go_wp2
   go_roundw
   case rel=> exact ⟨k + 1,by omega,by go_num,hbd2⟩
   case measure=> simp [intOf];omega
  ·obtain rfl:k=joins.length:=by omega
   go_wp2;have hbb:=hb;clear hb hu1 m0 m1
   go_loopw [6] (fun i wr=> ∃(k:Nat),k<=defs.length/\i= .int .i64 k/\Below (w.heap.size + 2) W1 wr) (fun i _=> defs.length - (intOf i).toNat)
   case atStart=> exact ⟨0,by omega,rfl,hbb⟩
   case round=>
    obtain ⟨k,hk,rfl,hb⟩:=hrel;obtain ⟨m0,m1,hu1⟩:=hrd3 wr hb;obtain ⟨hu1,hB1,hbw⟩:=hrd wr hb;by_cases hlt:k < defs.length
    ·rcases h1 with h0 | ⟨b0,o0,rfl,hB0,hc0⟩
     ·rw [h0] at hlt;simp at hlt
     rcases g1 with h1 | ⟨b2,o2,rfl,hB2,hc2⟩
     ·rw [h1] at hlt;simp at hlt
     obtain ⟨d1,e1,f1⟩:=hc0.get defs b0 o0 k hlt;obtain ⟨d2,e2,f2⟩:=hc2.get defs b2 o2 k hlt;obtain ⟨g0,g1,g2,g3,g4,g5,g6,g7,g8,g9,gA,rfl⟩:=qW f1;obtain ⟨i0,i1,i2,i3,i4,i5,i6,i7,i8,i9,iA,rfl⟩:=qW f2;have hbd:=hb.drew;obtain ⟨hu2,hB2',_⟩:=hrd wr.drew hbd
     have hS:∀W,Below (w.heap.size + 2) W1 W->W.cell? ⟨w.heap.size,3,none⟩=some (.slice (some ⟨b0,o0,none⟩) defs.length p1)/\W.cell? ⟨w.heap.size + 1,3,none⟩=some (.slice (some ⟨b2,o2,none⟩) defs.length q1)/\(W.cell? ⟨b0,o0 + k * 5,none⟩=some (.int .i64 g0)/\W.cell? ⟨b0,o0 + k * 5 + 1,none⟩=some (.string g1)/\W.cell? ⟨b0,o0 + k * 5 + 2,none⟩=some (.slice g2 g3 g4)/\W.cell? ⟨b0,o0 + k * 5 + 3,none⟩=some (.slice g5 g6 g7)/\W.cell? ⟨b0,o0 + k * 5 + 4,none⟩=some (.slice g8 g9 gA))/\W.cell? ⟨b2,o2 + k * 5,none⟩=some (.int .i64 i0)/\W.cell? ⟨b2,o2 + k * 5 + 1,none⟩=some (.string i1)/\W.cell? ⟨b2,o2 + k * 5 + 2,none⟩=some (.slice i2 i3 i4)/\W.cell? ⟨b2,o2 + k * 5 + 3,none⟩=some (.slice i5 i6 i7)/\W.cell? ⟨b2,o2 + k * 5 + 4,none⟩=some (.slice i8 i9 iA):=fun W h=> by
      obtain ⟨y0,y1,hu2⟩:=hrd3 W h;exact ⟨y0,y1,zK (e1.keep hu2 hB0),zK (e2.keep hu2 hB2)⟩
     have hcall:=ihC defs[k] (hkd k hlt) B u wr.drew _ _ hu2 hB2' f1 f2;obtain ⟨z0,z1,⟨y0,y1,y2,y3,y4⟩,x0,x1,x2,x3,x4⟩:=hS _ hbd;clear f1 f2 hc0 hc2;go_wp2
     go_region_held3 (fun W=> W.cell? ⟨w.heap.size,3,none⟩=some (.slice (some ⟨b0,o0,none⟩) defs.length p1)/\W.cell? ⟨w.heap.size + 1,3,none⟩=some (.slice (some ⟨b2,o2,none⟩) defs.length q1)/\W.cell? ⟨b0,o0 + k * 5,none⟩=some (.int .i64 g0)/\W.cell? ⟨b0,o0 + k * 5 + 1,none⟩=some (.string g1)/\W.cell? ⟨b0,o0 + k * 5 + 2,none⟩=some (.slice g2 g3 g4)/\W.cell? ⟨b0,o0 + k * 5 + 3,none⟩=some (.slice g5 g6 g7)/\W.cell? ⟨b0,o0 + k * 5 + 4,none⟩=some (.slice g8 g9 gA)/\W.cell? ⟨b2,o2 + k * 5,none⟩=some (.int .i64 i0)/\W.cell? ⟨b2,o2 + k * 5 + 1,none⟩=some (.string i1)/\W.cell? ⟨b2,o2 + k * 5 + 2,none⟩=some (.slice i2 i3 i4)/\W.cell? ⟨b2,o2 + k * 5 + 3,none⟩=some (.slice i5 i6 i7)/\W.cell? ⟨b2,o2 + k * 5 + 4,none⟩=some (.slice i8 i9 iA)) (go_keep)
      (first | (go_at_call 90;refine hcall.mono ?_;rintro e w2 ⟨rfl,hb2⟩;have hbd2:=hbd.trans (hb2.mono (by simp;have:=hb.size;omega));obtain ⟨zz0,zz1,⟨yy0,yy1,yy2,yy3,yy4⟩,xx0,xx1,xx2,xx3,xx4⟩:=hS w2 hbd2))
     all_goals go_wp2
     go_roundw
     case rel=> exact ⟨k + 1,by omega,by go_num,hbd2⟩
     case measure=> simp [intOf];omega
    ·obtain rfl:k=defs.length:=by omega
     obtain ⟨t0,t1,_⟩:=hrd4 wr hb;have hcall:=zcu kids hkk B u wr _ _ hu1 hB1 ⟨a2,p2,rfl,l2,h2⟩ ⟨b2',q2,rfl,l2,g2⟩;go_wp2_with (go_at_call 47;refine hcall.mono ?_;rintro e w2 ⟨rfl,hb2⟩);go_ret;exact ⟨rfl,hbw.trans (hb2.mono hbw.size)⟩
theorem zl6:∀s,zfe s/\zfy s:=by
 intro s
 induction s with
 | zero=>
  refine ⟨fun t ht=> ?_,fun t ht=> ?_⟩
  ·have:=yD (.proc t);omega
  ·have:=yD (.def_ t);omega
 | succ s ih=>
  refine ⟨fun t ht B u w c1 c2 hu hB h1 h2=> ?_,fun t ht B u w c1 c2 hu hB h1 h2=> ?_⟩
  ·obtain ⟨op,text,args,defs,kids⟩:=t
   exact zj1 s ih.1 ih.2 op text args defs kids ht B u w c1 c2 hu hB h1 h2
  ·obtain ⟨form,text,joins,defs,kids⟩:=t
   exact zkv s ih.1 ih.2 form text joins defs kids ht B u w c1 c2 hu hB h1 h2
theorem zg1 (t:Term) (B:Nat) (u w:World) (c1 c2:List Value) (hu:zh B u w) (hB:B<=w.heap.size) (h1:ze B u c1 t) (h2:ze B u c2 t):
  Calls Tryz.prog 34 #[.agg c1.toArray, .agg c2.toArray] w fun e w'=> e= .returned (.bool true)/\Below w.heap.size w w':=
 (zl6 (Part.proc t).size).1 t (ZL _) B u w c1 c2 hu hB h1 h2
end
section
open Go.RowKit Go.Shelf
abbrev Chg:=List (ByteArray×Exp)
def yh:Chg->ByteArray->Option Exp
 | [],_=> none
 | (n,e)::l,s=> match yh l s with
  | some x=> some x
  | none=> if (n.toList==s.toList)=true then some e else none
theorem zeH (s:ByteArray) (n:ByteArray) (e:Exp):∀l:Chg,yh (l ++ [(n,e)]) s=if (n.toList==s.toList)=true then some e else yh l s
 | []=> by simp only [List.nil_append,yh]
 | (m,f)::l=> by
  rw [List.cons_append,yh,zeH s n e l];by_cases h:(n.toList==s.toList)=true
  ·rw [if_pos h,if_pos h]
  ·rw [if_neg h,if_neg h,yh]
theorem ziV (c:Chg) (s:ByteArray) (k:Nat) (h:k < c.length):yh (c.take (k + 1)) s=if ((c[k]).1.toList==s.toList)=true then some (c[k]).2 else yh (c.take k) s:=by
 rw [ZT h];exact zeH s _ _ _
def zao (B:Nat) (w:World) (cs:List Value) (c:Chg):Prop:=
 ∃v1 v2,cs= [v1,v2]/\zx B w v1 (c.map (·.1))/\SlAt B v2 c.length (fun b off=> zW B w b off (c.map (·.2)))
def zfu:List Value:= [.int .i64 0, .int .i64 0, .string ⟨#[]⟩, .slice none 0 0]
def zfv (B:Nat) (w:World) (es:List Value) (b:Bool):Option Exp->Prop
 | some x=> b=true/\zy B w es x
 | none=> b=false/\es=zfu
theorem Tryz.results144:Tryz.f144.results=#[.cell 4 36, .tmp 5]:=by kernel_rfl
theorem Tryz.results169:Tryz.f169.results=#[.cell 2 36]:=by kernel_rfl
theorem ziy (c:Chg) (nn:Nat) (hnn:nn=c.length) (B:Nat) (u w:World) (a0 a1:Option Addr) (p0 p1:Nat) (s:ByteArray) (hu:zh B u w) (hBl:B<=w.heap.size) (l1:nn<=9223372036854775807)
  (h0':nn=0∨∃b off,a0=some ⟨b,off,none⟩/\b < B/\zbw u b off (c.map (·.1))) (h1:nn=0∨∃b off,a1=some ⟨b,off,none⟩/\b < B/\zW B u b off (c.map (·.2))):
  Calls Tryz.prog 144 #[.agg #[.slice a0 nn p0, .slice a1 nn p1], .string s] w fun e w'=> ∃es b,e= .returned (.tuple #[.agg es.toArray, .bool b])/\Hid (zfv B u es b (yh c s))/\Below w.heap.size w w':=by
 have HN:=ZH hnn;clear hnn;obtain ⟨W1,hW1⟩:∃W1,W1=(w.alloc (.cells #[.slice a0 nn p0, .slice a1 nn p1] 111)).alloc (.cells #[.int .i64 0, .int .i64 0, .string ⟨#[]⟩, .slice none 0 0] 36):=⟨_,rfl⟩;have z1:W1.heap.size=w.heap.size + 2:=by rw [hW1];simp
 have b1:Below w.heap.size w W1:=by rw [hW1];exact (ZQ w _).alloc (by simp) _
 have k1:zh B u W1:=hu.trans ((Below.keptC b1).mono hBl);have m0:W1.cell? ⟨w.heap.size,0,none⟩=some (.slice a0 nn p0):=by rw [hW1,ZP _ _ _ (by simp),ZA _ _ _ _ rfl];rfl
 have m1:W1.cell? ⟨w.heap.size,1,none⟩=some (.slice a1 nn p1):=by rw [hW1,ZP _ _ _ (by simp),ZA _ _ _ _ rfl];rfl
 have hbx:W1.heap[w.heap.size + 1]?=some (.cells #[.int .i64 0, .int .i64 0, .string ⟨#[]⟩, .slice none 0 0] 36):=by
  rw [hW1];have:=ZN (w.alloc (.cells #[.slice a0 nn p0, .slice a1 nn p1] 111)) (.cells #[.int .i64 0, .int .i64 0, .string ⟨#[]⟩, .slice none 0 0] 36);rwa [World.size_alloc] at this
 obtain ⟨c0,c1,c2,c3,cf⟩:W1.cell? ⟨w.heap.size + 1,0,none⟩=some (.int .i64 0)/\W1.cell? ⟨w.heap.size + 1,1,none⟩=some (.int .i64 0)/\W1.cell? ⟨w.heap.size + 1,2,none⟩=some (.string ⟨#[]⟩)/\W1.cell? ⟨w.heap.size + 1,3,none⟩=some (.slice none 0 0)/\∀o,W1.frozen? ⟨w.heap.size + 1,o,none⟩=false:=
  ⟨by simp [World.cell?,hbx],by simp [World.cell?,hbx],by simp [World.cell?,hbx],by simp [World.cell?,hbx],fun o=> by simp [World.frozen?,hbx]⟩
 clear hbx;have n0:=m0;rw [hW1] at n0;have HW:=ZH hW1;have HB:=ZH b1;have HK:=ZH k1;clear hW1 b1 k1;go_enter Tryz.func144,Tryz.ntmps144;go_wp2;rw [<-HW.out];clear n0
 go_loop [6] (fun i=> ∃k:Nat,k<=nn/\i= .int .i64 ((k:Int) - 1)/\Hid (yh c s=yh (c.take k) s)) (fun i=> (intOf i + 1).toNat)
 case atStart=> exact ⟨nn,ZL _,rfl,ZH (by rw [HN.out,List.take_length])⟩
 case round=>
  obtain ⟨k',hk,hi,hf⟩:=hrel;rcases k' with _ | k
  ·rw [show (((0:Nat):Int) - 1)=-1 from rfl] at hi
   subst hi;clear h0' h1;go_wp2;simp [bodyPost,results,Tryz.results144,go_sem,c0,c1,c2,c3];have hf':yh c s=none:=hf.out;refine ⟨ZH (by rw [hf'];exact ⟨rfl,rfl⟩),?_⟩;exact set4 HB.out (w.heap.size + 1) (by omega) _ _ _ _
  ·rw [show (((k + 1:Nat):Int) - 1)=(k:Int) by omega] at hi
   subst hi;have hkn:k < nn:=by omega
   have hkl:k < c.length:=by rw [<-HN.out];exact hkn
   have hsp:=ziV c s k hkl;rcases h0' with h0 | ⟨bf,of,rfl,hBf,hcf⟩
   ·omega
   rcases h1 with h1 | ⟨be,oe,rfl,hBe,hce⟩
   ·omega
   have y:=hcf k (by rw [List.length_map];exact hkl);have y0:=HK.out bf (of + k) _ hBf y;rw [List.getElem_map] at y0;obtain ⟨d1,e1,f1⟩:=hce.get (c.map (·.2)) be oe k (by rw [List.length_map];exact hkl);rw [List.getElem_map] at f1;obtain ⟨n,hn⟩:∃n,n=(c[k]).1:=⟨_,rfl⟩;obtain ⟨e,he⟩:∃e,e=(c[k]).2:=⟨_,rfl⟩;rw [<-hn] at y0 hsp;rw [<-he] at f1 hsp;clear hcf hce y hn he;by_cases hh:(n.toList==s.toList)=true
   ·obtain ⟨g0,g1,g2,g3,g4,g5,rfl⟩:=qG f1
    obtain ⟨x0,x1,x2,x3⟩:=jd (e1.keep HK.out hBe);have hF:Hid (zfv B u [.int .i64 g0, .int .i64 g1, .string g2, .slice g3 g4 g5] true (yh c s)):=ZH (by rw [hf.out,hsp,if_pos hh];exact ⟨rfl,f1⟩);clear hsp f1 e1 hf;go_wp2;simp [bodyPost,results,Tryz.results144,go_sem,c0,c1,c2,c3];exact ⟨hF,set4 HB.out (w.heap.size + 1) (by omega) _ _ _ _⟩
   ·have hF:Hid (yh c s=yh (c.take k) s):=ZH (by rw [hf.out,hsp,if_neg hh])
    have hh':(n.toList==s.toList)=false:=by simpa using hh
    clear hsp f1 e1 hf hh;go_wp2
    go_round
    case rel=> exact ⟨k,by omega,rfl,hF⟩
    case measure=> simp [intOf]
theorem zg7 (c:Chg) (B:Nat) (u w:World) (cs:List Value) (s:ByteArray) (hu:zh B u w) (hBl:B<=w.heap.size) (hc:zao B u cs c):
  Calls Tryz.prog 144 #[.agg cs.toArray, .string s] w fun e w'=> ∃es b,e= .returned (.tuple #[.agg es.toArray, .bool b])/\Hid (zfv B u es b (yh c s))/\Below w.heap.size w w':=by
 obtain ⟨v1,v2,rfl,h1,h2⟩:=hc;obtain ⟨a0,p0,rfl,l0,z0,q0,h0⟩:=h1;obtain ⟨a1,p1,rfl,l1,h1⟩:=h2;have e0:(c.map (·.1)).length=c.length:=List.length_map ..
 have:=ziy c c.length rfl B u w a0 a1 p0 p1 s hu hBl l1 (by
  rcases h0 with h | h
  ·exact .inl (by rw [<-e0,h];rfl)
  ·exact .inr h) h1
 rw [e0];exact this
end
section
open Go.RowKit Go.Shelf Go.Maps
def mid (u:World) (N A:Nat) (w:World):World:={ w with heap:=w.heap.mapIdx fun i o=> if i < N then (match u.heap[i]? with | some x=> x | none=> .map #[] 0) else if i < A then .map #[] 0 else o }
theorem yM (u:World) (N A:Nat) (w:World) (b o:Nat) (v:Value):(mid u N A w).cell? ⟨b,o,none⟩=some v↔b < w.heap.size/\((b < N/\u.cell? ⟨b,o,none⟩=some v)∨(N<=b/\A<=b/\w.cell? ⟨b,o,none⟩=some v)):=by
 unfold mid World.cell?;simp only [Array.getElem?_mapIdx];cases h:w.heap[b]? with
 | none=>
  have:¬b < w.heap.size:=fun hlt=> by rw [Array.getElem?_eq_getElem hlt] at h;cases h
  simp [this]
 | some x=>
  have hlt:b < w.heap.size:=(ZG h).1;by_cases hb:b < N
  ·cases hu:u.heap[b]? with
   | none=> simp [hb,hlt,Nat.not_le.2 hb]
   | some y=> simp [hb,hlt,Nat.not_le.2 hb]
  ·by_cases hA:b < A
   ·simp [hb,hA,hlt,Nat.not_le.2 hA]
   ·simp [hb,hA,hlt,Nat.not_lt.1 hA,Nat.not_lt.1 hb]
theorem zbD {u:World} {N A A' B:Nat} {w w':World} (hA:A'<=A) (hs:w.heap.size<=w'.heap.size) (h:∀b o v,A<=b->b < B->w.cell? ⟨b,o,none⟩=some v->w'.cell? ⟨b,o,none⟩=some v):zh B (mid u N A w) (mid u N A' w'):=by
 intro b o v hb hv;obtain ⟨h1,h2⟩:=(yM u N A w b o v).1 hv;refine (yM u N A' w' b o v).2 ⟨by omega,?_⟩;rcases h2 with h2 | ⟨h2,h3,h4⟩
 ·exact .inl h2
 ·exact .inr ⟨h2,by omega,h b o v h3 hb h4⟩
theorem zdn {u:World} {N:Nat} {w:World} (hu:zh N u w) (A B:Nat):zh B (mid u N A w) w:=by
 intro b o v hb hv;obtain ⟨h1,h2⟩:=(yM u N A w b o v).1 hv;rcases h2 with ⟨h2,h3⟩ | ⟨h2,h3,h4⟩
 ·exact hu b o v h2 h3
 ·exact h4
def je {X:Type} (At:Nat->World->List Value->X->Prop) (u:World) (N lo:Nat) (row:Option Nat) (w:World) (cs:List Value) (x:X):Prop:=
 ∃A B,lo<=A/\B<=w.heap.size/\(∀g,row=some g->g < A∨B<=g)/\At B (mid u N A w) cs x
theorem je.keep {X:Type} {At:Nat->World->List Value->X->Prop} (hAt:zad At) {u:World} {N lo:Nat} {row row':Option Nat} {w w':World} {cs:List Value} {x:X} (h:je At u N lo row w cs x)
  (hk:∀b,lo<=b->b < w.heap.size->row≠some b->w'.heap[b]?=w.heap[b]?) (hs:w.heap.size<=w'.heap.size) (hr:row'=row∨∃g,row'=some g/\w.heap.size<=g):je At u N lo row' w' cs x:=by
 obtain ⟨A,B,h1,h2,h3,h4⟩:=h;refine ⟨A,B,h1,by omega,fun g hg=> ?_,hAt _ _ _ _ _ _ (zbD (ZL _) hs fun b o v ha hb hv=> ?_) (ZL _) h4⟩
 ·rcases hr with rfl | ⟨g',hg',hle⟩
  ·exact h3 g hg
  ·rw [hg] at hg';have:=ZJ hg';omega
 ·refine (ZB (w:=w) (hk b (by omega) (by omega) (fun e=> ?_))).trans hv
  rcases h3 b e with h | h <;> omega
theorem je.out {X:Type} {At:Nat->World->List Value->X->Prop} (hAt:zad At) {u:World} {N lo:Nat} {row:Option Nat} {w:World} {cs:List Value} {x:X} (h:je At u N lo row w cs x):At w.heap.size (mid u N lo w) cs x:=by
 obtain ⟨A,B,h1,h2,h3,h4⟩:=h;exact hAt _ _ _ _ _ _ (zbD h1 (ZL _) fun b o v _ _ hv=> hv) h2 h4
theorem zbH {u:World} {N A:Nat} {w:World} {b off:Nat} {cs:List Value} (h:zI w b off cs) (hb:A<=b) (hN:N<=b):zI (mid u N A w) b off cs:=by
 intro j hj;exact (yM u N A w b (off + j) _).2 ⟨zD (h j hj), .inr ⟨hN,hb,h j hj⟩⟩
theorem zcQ {X:Type} {At:Nat->World->List Value->X->Prop} {u:World} {N n A ty:Nat} (hN:N<=A) {w:World} {vs:List Value} {l:List X} {v:Value} {row:Option Nat} (hAt:zad At) (hn:0 < n) (h:w.ownsRow A ty n v l.length vs)
  (hc:zq (fun _ w cs x=> je At u N A row w cs x) n 0 w vs l)
  {P:Nat->Nat->Prop} (hP:∀b off,(∀i,(h:i < l.length)->∃cs,zI (mid u N A w) b (off + i * n) cs/\At w.heap.size (mid u N A w) cs l[i])->P b off):SlAt w.heap.size v l.length P:=by
 obtain ⟨a,cap,rfl,hk,h⟩:=zJ hn h;refine ⟨a,cap,rfl,hk,?_⟩;rcases h with h | ⟨g,rfl,hg,hA,hcell⟩
 ·exact .inl h
 ·refine .inr ⟨g,0,rfl,hg,hP g 0 fun i hi=> ⟨_,zbH (zag i n hcell ?_) hA (by omega),(hc.2 i hi).out hAt⟩⟩
  rw [hc.1,<-Nat.succ_mul];exact Nat.mul_le_mul_right n hi
theorem zi6 {u:World} {N A:Nat} (hN:N<=A) {w:World} {vs:List Value} {l:List zg} {v:Value} {row:Option Nat} (h:w.ownsRow A 130 5 v l.length vs) (hc:zq (fun _ w cs x=> je zo u N A row w cs x) 5 0 w vs l):
  SlAt w.heap.size v l.length (fun b off=> zr w.heap.size (mid u N A w) b off l):=
 zcQ hN jB (by omega) h hc fun b off h=> zr.mk l b off h
theorem zle {u:World} {N A:Nat} (hN:N<=A) {w:World} {vs:List Value} {l:List Term} {v:Value} {row:Option Nat} (h:w.ownsRow A 33 5 v l.length vs) (hc:zq (fun _ w cs x=> je ze u N A row w cs x) 5 0 w vs l):
  SlAt w.heap.size v l.length (fun b off=> zu w.heap.size (mid u N A w) b off l):=
 zcQ hN jo (by omega) h hc fun b off h=> zu.mk l b off h
def qw:List Term->Term
 | []=> .mk 1 ByteArray.empty [] [] []
 | [t]=> t
 | t::u::l=> .mk 3 ByteArray.empty [] [] [t,qw (u::l)]
mutual
def layT:Term->Term
 | .mk op t a d k=> qw (zG (.mk op t a (zQ d) (qh k)))
def layC:zg->zg
 | .mk f t j d k=> .mk f t j (zQ d) (qh k)
def qh:List Term->List Term
 | []=> []
 | a::l=> layT a::qh l
def zQ:List zg->List zg
 | []=> []
 | a::l=> layC a::zQ l
end
theorem zac:∀l,qh l=l.map layT
 | []=> rfl
 | a::l=> by rw [qh,zac l];rfl
theorem jC:∀l,zQ l=l.map layC
 | []=> rfl
 | a::l=> by rw [zQ,jC l];rfl
def zmf:Term->Int | .mk op _ _ _ _=> op
def zcn (t:Term):Prop:=zmf t≠1/\zmf t≠3
theorem zbZ {t:Term} (h:zcn t):zG t= [t]:=by
 obtain ⟨op,tx,a,d,k⟩:=t;rw [zG,if_neg (show ¬op=1 from h.1),if_neg (show ¬op=3 from h.2)]
mutual
theorem zc8:∀(t:Term),∀a∈zG t,zcn a
 | .mk op t a d k,x,hx=> by
  rw [zG] at hx;by_cases h1:op=1
  ·rw [if_pos h1] at hx;simp at hx
  ·rw [if_neg h1] at hx
   by_cases h3:op=3
   ·rw [if_pos h3] at hx;exact zej k x hx
   ·rw [if_neg h3] at hx
    rw [List.mem_singleton.1 hx];exact ⟨h1,h3⟩
theorem zej:∀(l:List Term),∀a∈qO l,zcn a
 | [],x,hx=> by simp [qO] at hx
 | t::l,x,hx=> by
  rw [qO] at hx;rcases List.mem_append.1 hx with hx | hx
  ·exact zc8 t x hx
  ·exact zej l x hx
end
theorem zeC:∀l:List Term,(∀a∈l,zcn a)->zG (qw l)=l
 | [],_=> rfl
 | [t],h=> zbZ (h t (by simp))
 | t::u::l,h=> by
  rw [qw,zG,if_neg (by decide),if_pos rfl,qO,qO,qO,List.append_nil,zbZ (h t (by simp)),zeC (u::l) (fun a ha=> h a (by simp at ha ⊢;exact .inr ha))]
  rfl
abbrev ye (t:Term):Prop:=NdP (fun q=> q.shaped=true) (.proc t)
abbrev jQ (c:zg):Prop:=NdP (fun q=> q.shaped=true) (.def_ c)
theorem zi7 {op:Int} {t:ByteArray} {a:List Exp} {d:List zg} {k:List Term} (h:ye (.mk op t a d k)):
  (op=1/\t=ByteArray.empty/\a= []/\d= []/\k= [])∨(op=3/\t=ByteArray.empty/\a= []/\d= []/\∃k1 k2,k= [k1,k2]/\ye k1/\ye k2)∨(op≠1/\op≠3):=by
 have h1:=h.self;by_cases ho:op=1
 ·subst ho
  simp [Part.shaped,yg] at h1;exact .inl ⟨rfl,by first | exact h1.1.1.1 | exact xd h1.1.1.1,h1.1.1.2,h1.1.2,h1.2⟩
 ·by_cases h3:op=3
  ·subst h3
   simp [Part.shaped,yg] at h1;obtain ⟨⟨⟨a1,a2⟩,a3⟩,a4⟩:=h1
   match k,a4 with
   | [x,y],_=> exact .inr (.inl ⟨rfl,by first | exact a1 | exact xd a1,a2,a3,x,y,rfl,h.part (qV (by simp)),h.part (qV (by simp))⟩)
  ·exact .inr (.inr ⟨ho,h3⟩)
theorem zfG {op:Int} {t:ByteArray} {a:List Exp} {d:List zg} {k:List Term} (h1:op≠1) (h3:op≠3):layT (.mk op t a d k)= .mk op t a (zQ d) (qh k):=by
 rw [layT,zG,if_neg h1,if_neg h3,qw]
theorem zmt (k1 k2:Term):layT (.mk 3 ByteArray.empty [] [] [k1,k2])=qw (zG (layT k1) ++ zG (layT k2)):=by
 rw [layT,zG,if_neg (by decide),if_pos rfl,qh,qh,qh,qO,qO,qO,List.append_nil]
theorem zne {A B:List Term} (hA:∀a∈A,zcn a) (hB:∀a∈B,zcn a):∀a∈A ++ B,zcn a:=fun a ha=> (List.mem_append.1 ha).elim (hA a) (hB a)
def szT (t:Term):Nat:=(qL 0 t).length
theorem zmv (lev:Nat) (t:Term):(qL lev t).length=szT t:=yP lev 0 (.proc t)
def szC (t:zg):Nat:=(qF 0 t).length
theorem zmu (lev:Nat) (t:zg):(qF lev t).length=szC t:=yP lev 0 (.def_ t)
def szTs:List Term->Nat
 | []=> 0
 | a::l=> szT a + szTs l
def szCs:List zg->Nat
 | []=> 0
 | a::l=> szC a + szCs l
theorem zd2 (lev:Nat):∀l,(yj lev l).length=szTs l
 | []=> rfl
 | a::l=> by rw [yj,List.length_append,zmv,zd2 lev l,szTs]
theorem zbu (lev:Nat):∀l,(qu lev l).length=szCs l
 | []=> rfl
 | a::l=> by rw [qu,List.length_append,zmu,zbu lev l,szCs]
theorem zb3:∀a b,szTs (a ++ b)=szTs a + szTs b
 | [],b=> by simp [szTs]
 | x::a,b=> by rw [List.cons_append,szTs,szTs,zb3 a b];omega
theorem zbv (o:Int) (t:ByteArray) (a:List Exp) (d:List zg) (k:List Term):szT (.mk o t a d k)=1 + (yG 1 a).length + szCs d + szTs k:=by
 rw [szT,qL,List.length_cons,List.length_append,List.length_append,zbu,zd2];simp only [Nat.zero_add];omega
theorem zko (f:Int) (t:ByteArray) (j:List Msg) (d:List zg) (k:List Term):szC (.mk f t j d k)=1 + szCs d + szTs k:=by
 rw [szC,qF,List.length_cons,List.length_append,zbu,zd2];omega
theorem zgF:∀l:List Term,szT (qw l) + 1<=szTs l + l.length∨(l= []/\szT (qw l)=1)
 | []=> .inr ⟨rfl,rfl⟩
 | [t]=> .inl (by rw [qw,szTs,szTs];simp)
 | t::u::l=> .inl (by
  rw [qw,zbv];rcases zgF (u::l) with h | h
  ·simp only [szTs,szCs,yG,List.length_cons,List.length_nil] at h ⊢;omega
  ·cases h.1)
mutual
theorem zcW:∀t:Term,ye t->szT (layT t)<=szT t/\szTs (zG (layT t)) + (zG (layT t)).length<=szT t + 1
 | .mk op t a d ks,h=> by
  rcases zi7 h with ⟨rfl,rfl,rfl,rfl,rfl⟩ | ⟨rfl,rfl,rfl,rfl,k1,k2,rfl,h1,h2⟩ | ⟨h1,h3⟩
  ·have e:layT (.mk 1 ByteArray.empty [] [] [])= .mk 1 ByteArray.empty [] [] []:=rfl
   rw [e];exact ⟨ZL _,by simp [zG,szTs]⟩
  ·have i1:=(zcW k1 h1).2
   have i2:=(zcW k2 h2).2
   have e:szT (.mk 3 ByteArray.empty [] [] [k1,k2])=1 + szT k1 + szT k2:=by
    rw [zbv,szTs,szTs,szTs,szCs,yG];simp;omega
   have hj:=zgF (zG (layT k1) ++ zG (layT k2));rw [zmt,zeC _ (zne (zc8 _) (zc8 _)),e];rw [zb3,List.length_append] at hj;rw [zb3,List.length_append];refine ⟨?_,by omega⟩;rcases hj with hj | ⟨_,hj⟩
   ·omega
   ·rw [hj];omega
  ·have e:szT (layT (.mk op t a d ks))<=szT (.mk op t a d ks):=by
    have c1:=xF d (fun c hc=> h.part (yu hc));have c2:=zam ks (fun c hc=> h.part (qV hc));rw [zfG h1 h3,zbv,zbv];omega
   refine ⟨e,?_⟩;have e4:zG (layT (.mk op t a d ks))= [layT (.mk op t a d ks)]:=by rw [zfG h1 h3];exact zbZ ⟨h1,h3⟩
   rw [e4,szTs,szTs];simp only [List.length_cons,List.length_nil];omega
theorem zam:∀l:List Term,(∀c∈l,ye c)->szTs (qh l)<=szTs l
 | [],_=> by rw [qh];exact ZL _
 | a::l,h=> by
  have h1:=(zcW a (h a (by simp))).1;have h2:=zam l (fun x hx=> h x (by simp [hx]));rw [qh,szTs,szTs];omega
theorem zjI:∀t:zg,jQ t->szC (layC t)<=szC t
 | .mk f t j d ks,h=> by
  have c1:=xF d (fun c hc=> h.part (ji hc));have c2:=zam ks (fun c hc=> h.part (jl hc));rw [layC,zko,zko];omega
theorem xF:∀l:List zg,(∀c∈l,jQ c)->szCs (zQ l)<=szCs l
 | [],_=> by rw [zQ];exact ZL _
 | a::l,h=> by
  have h1:=zjI a (h a (by simp));have h2:=xF l (fun x hx=> h x (by simp [hx]));rw [zQ,szCs,szCs];omega
end
theorem NdP.of_parts {P:Part->Prop} {p:Part} (h:P p) (hq:∀q∈p.parts,NdP P q):NdP P p:=by
 intro x hx;rw [zv,List.map_cons] at hx;rcases List.mem_cons.1 hx with rfl | hx
 ·exact h
 ·obtain ⟨y,hy,rfl⟩:=List.mem_map.1 hx
  obtain ⟨q,hq1,hq2⟩:=List.mem_flatMap.1 hy;refine hq q hq1 y.1 ?_;rw [qJ 0 (0 + 1)];exact List.mem_map.2 ⟨y,hq2,rfl⟩
theorem zlx:ye (.mk 1 ByteArray.empty [] [] []):=NdP.of_parts rfl (fun q hq=> by simp [Part.parts] at hq)
theorem zlY {k1 k2:Term} (h1:ye k1) (h2:ye k2):ye (.mk 3 ByteArray.empty [] [] [k1,k2]):=
 NdP.of_parts rfl (fun q hq=> by
  simp [Part.parts] at hq;rcases hq with rfl | rfl
  ·exact h1
  ·exact h2)
theorem zfX:∀l:List Term,(∀a∈l,ye a)->ye (qw l)
 | [],_=> zlx
 | [t],h=> h t (by simp)
 | t::u::l,h=> zlY (h t (by simp)) (zfX (u::l) (fun a ha=> h a (by simp at ha ⊢;exact .inr ha)))
mutual
theorem zeX:∀t:Term,ye t->∀a∈zG t,ye a
 | .mk op t a d k,h,x,hx=> by
  rw [zG] at hx;by_cases h1:op=1
  ·rw [if_pos h1] at hx;simp at hx
  ·rw [if_neg h1] at hx
   by_cases h3:op=3
   ·rw [if_pos h3] at hx;exact zdr k (fun c hc=> h.part (qV hc)) x hx
   ·rw [if_neg h3] at hx
    rw [List.mem_singleton.1 hx];exact h
theorem zdr:∀l:List Term,(∀c∈l,ye c)->∀a∈qO l,ye a
 | [],_,x,hx=> by simp [qO] at hx
 | t::l,h,x,hx=> by
  rw [qO] at hx;rcases List.mem_append.1 hx with hx | hx
  ·exact zeX t (h t (by simp)) x hx
  ·exact zdr l (fun c hc=> h c (by simp [hc])) x hx
end
theorem ze0 {op:Int} {t:ByteArray} {a:List Exp} {d:List zg} {k:List Term} (h:(Part.proc (.mk op t a d k)).shaped=true):(Part.proc (.mk op t a (zQ d) (qh k))).shaped=true:=by
 rw [jC,zac];simpa [Part.shaped,yg] using h
theorem zdF {f:Int} {t:ByteArray} {j:List Msg} {d:List zg} {k:List Term} (h:(Part.def_ (.mk f t j d k)).shaped=true):(Part.def_ (.mk f t j (zQ d) (qh k))).shaped=true:=by
 rw [jC,zac];simpa [Part.shaped,yB] using h
mutual
theorem zkN:∀t:Term,ye t->ye (layT t)
 | .mk op t a d k,h=> by
  rw [layT];exact zfX _ (zeX _ (zf4 op t a d k h (zbd d (fun c hc=> h.part (yu hc))) (zbf k (fun c hc=> h.part (qV hc)))))
theorem zbf:∀l:List Term,(∀c∈l,ye c)->∀c∈qh l,ye c
 | [],_,x,hx=> by simp [qh] at hx
 | t::l,h,x,hx=> by
  rw [qh] at hx;rcases List.mem_cons.1 hx with rfl | hx
  ·exact zkN t (h t (by simp))
  ·exact zbf l (fun c hc=> h c (by simp [hc])) x hx
theorem zkf:∀t:zg,jQ t->jQ (layC t)
 | .mk f t j d k,h=> by
  rw [layC];exact ziX f t j d k h (zbd d (fun c hc=> h.part (ji hc))) (zbf k (fun c hc=> h.part (jl hc)))
theorem zbd:∀l:List zg,(∀c∈l,jQ c)->∀c∈zQ l,jQ c
 | [],_,x,hx=> by simp [zQ] at hx
 | t::l,h,x,hx=> by
  rw [zQ] at hx;rcases List.mem_cons.1 hx with rfl | hx
  ·exact zkf t (h t (by simp))
  ·exact zbd l (fun c hc=> h c (by simp [hc])) x hx
theorem zf4:∀(op:Int) (t:ByteArray) (a:List Exp) (d:List zg) (k:List Term),ye (.mk op t a d k)->(∀c∈zQ d,jQ c)->(∀c∈qh k,ye c)->ye (.mk op t a (zQ d) (qh k))
 | op,t,a,d,k,h,h1,h2=> NdP.of_parts (ze0 h.self) (fun q hq=> by
  rw [Part.parts] at hq;rcases List.mem_append.1 hq with hq | hq
  ·rcases List.mem_append.1 hq with hq | hq
   ·obtain ⟨e,he,rfl⟩:=List.mem_map.1 hq
    exact h.part (zda he)
   ·obtain ⟨e,he,rfl⟩:=List.mem_map.1 hq
    exact h1 e he
  ·obtain ⟨e,he,rfl⟩:=List.mem_map.1 hq
   exact h2 e he)
theorem ziX:∀(f:Int) (t:ByteArray) (j:List Msg) (d:List zg) (k:List Term),jQ (.mk f t j d k)->(∀c∈zQ d,jQ c)->(∀c∈qh k,ye c)->jQ (.mk f t j (zQ d) (qh k))
 | f,t,j,d,k,h,h1,h2=> NdP.of_parts (zdF h.self) (fun q hq=> by
  rw [Part.parts] at hq;rcases List.mem_append.1 hq with hq | hq
  ·obtain ⟨e,he,rfl⟩:=List.mem_map.1 hq
   exact h1 e he
  ·obtain ⟨e,he,rfl⟩:=List.mem_map.1 hq
   exact h2 e he)
end
end
end Go.Proofs.YtjmlaeofjjhfmaaGreat
