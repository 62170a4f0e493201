/- Lemmas. -/
import Derived.Test.YtjmlaeofjjhfmaaGreatS27
import Derived.Test.YtjmlaeofjjhfmaaGreatS26
import Derived.Test.YtjmlaeofjjhfmaaGreatS10
set_option linter.unusedVariables false
set_option linter.unusedSimpArgs false
set_option maxRecDepth 10000
set_option maxHeartbeats 16000000
namespace Go.Proofs.YtjmlaeofjjhfmaaGreat
section
open Go.RowKit
def zfe (s:Nat):Prop:=∀(t:Term),(Part.proc t).size<=s->∀(B:Nat) (u w:World) (c1 c2:List Value),zh B u w->B<=w.heap.size->ze B u c1 t->ze B u c2 t->
 Calls Tryz.prog 34 #[.agg c1.toArray, .agg c2.toArray] w fun e w'=> e= .returned (.bool true)/\Below w.heap.size w w'
def zfy (s:Nat):Prop:=∀(t:zg),(Part.def_ t).size<=s->∀(B:Nat) (u w:World) (c1 c2:List Value),zh B u w->B<=w.heap.size->zo B u c1 t->zo B u c2 t->
 Calls Tryz.prog 90 #[.agg c1.toArray, .agg c2.toArray] w fun e w'=> e= .returned (.bool true)/\Below w.heap.size w w'
theorem zcu (kids:List Term) (hkT:∀k,(h:k < kids.length)->∀(B:Nat) (u w:World) (c1 c2:List Value),zh B u w->B<=w.heap.size->ze B u c1 kids[k]->ze B u c2 kids[k]->
   Calls Tryz.prog 34 #[.agg c1.toArray, .agg c2.toArray] w fun e w'=> e= .returned (.bool true)/\Below w.heap.size w w') (B:Nat) (u w:World) (v1 v2:Value) (hu:zh B u w) (hBl:B<=w.heap.size)
  (hv1:SlAt B v1 kids.length (fun b off=> zu B u b off kids)) (hv2:SlAt B v2 kids.length (fun b off=> zu B u b off kids)):
  Calls Tryz.prog 47 #[v1,v2] w fun e w'=> e= .returned (.bool true)/\Below w.heap.size w w':=by
 obtain ⟨a0,p0,rfl,l0,h0⟩:=hv1;obtain ⟨a1,p1,rfl,l1,h1⟩:=hv2;have hrd:∀W,Below w.heap.size w W->zh B u W/\B<=W.heap.size/\Below w.heap.size w W:=fun W h=> ⟨hu.trans ((Below.keptC h).mono hBl),by have:=h.size;omega,h⟩;go_enter Tryz.func47,Tryz.ntmps47;go_wp2
 go_loopw [5] (fun i wr=> ∃(k:Nat),k<=kids.length/\i= .int .i64 k/\Below (w.heap.size) w wr) (fun i _=> kids.length - (intOf i).toNat)
 case atStart=> exact ⟨0,by omega,rfl,ZF _ _⟩
 case round=>
  obtain ⟨k,hk,rfl,hb⟩:=hrel;obtain ⟨hu1,hB1,hbw⟩:=hrd wr hb;by_cases hlt:k < kids.length
  ·rcases h0 with h0 | ⟨b0,o0,rfl,hB0,hc0⟩
   ·rw [h0] at hlt;simp at hlt
   rcases h1 with h1 | ⟨b2,o2,rfl,hB2,hc2⟩
   ·rw [h1] at hlt;simp at hlt
   obtain ⟨d1,e1,f1⟩:=hc0.get kids b0 o0 k hlt;obtain ⟨d2,e2,f2⟩:=hc2.get kids b2 o2 k hlt;obtain ⟨g0,g1,g2,g3,g4,g5,g6,g7,g8,g9,gA,rfl⟩:=zz f1;obtain ⟨i0,i1,i2,i3,i4,i5,i6,i7,i8,i9,iA,rfl⟩:=zz f2;have hbd:=hb.drew;obtain ⟨hu2,hB2',_⟩:=hrd wr.drew hbd
   have hS:∀W,Below (w.heap.size) w W->(W.cell? ⟨b0,o0 + k * 5,none⟩=some (.int .i64 g0)/\W.cell? ⟨b0,o0 + k * 5 + 1,none⟩=some (.string g1)/\W.cell? ⟨b0,o0 + k * 5 + 2,none⟩=some (.slice g2 g3 g4)/\W.cell? ⟨b0,o0 + k * 5 + 3,none⟩=some (.slice g5 g6 g7)/\W.cell? ⟨b0,o0 + k * 5 + 4,none⟩=some (.slice g8 g9 gA))/\W.cell? ⟨b2,o2 + k * 5,none⟩=some (.int .i64 i0)/\W.cell? ⟨b2,o2 + k * 5 + 1,none⟩=some (.string i1)/\W.cell? ⟨b2,o2 + k * 5 + 2,none⟩=some (.slice i2 i3 i4)/\W.cell? ⟨b2,o2 + k * 5 + 3,none⟩=some (.slice i5 i6 i7)/\W.cell? ⟨b2,o2 + k * 5 + 4,none⟩=some (.slice i8 i9 iA):=fun W h=> by
    have hu2:=(hrd W h).1;exact ⟨zK (e1.keep hu2 hB0),zK (e2.keep hu2 hB2)⟩
   have hcall:=hkT k hlt B u wr.drew _ _ hu2 hB2' f1 f2;obtain ⟨⟨y0,y1,y2,y3,y4⟩,x0,x1,x2,x3,x4⟩:=hS _ hbd;clear f1 f2 hc0 hc2;go_wp2
   go_region_held3 (fun W=> W.cell? ⟨b0,o0 + k * 5,none⟩=some (.int .i64 g0)/\W.cell? ⟨b0,o0 + k * 5 + 1,none⟩=some (.string g1)/\W.cell? ⟨b0,o0 + k * 5 + 2,none⟩=some (.slice g2 g3 g4)/\W.cell? ⟨b0,o0 + k * 5 + 3,none⟩=some (.slice g5 g6 g7)/\W.cell? ⟨b0,o0 + k * 5 + 4,none⟩=some (.slice g8 g9 gA)/\W.cell? ⟨b2,o2 + k * 5,none⟩=some (.int .i64 i0)/\W.cell? ⟨b2,o2 + k * 5 + 1,none⟩=some (.string i1)/\W.cell? ⟨b2,o2 + k * 5 + 2,none⟩=some (.slice i2 i3 i4)/\W.cell? ⟨b2,o2 + k * 5 + 3,none⟩=some (.slice i5 i6 i7)/\W.cell? ⟨b2,o2 + k * 5 + 4,none⟩=some (.slice i8 i9 iA)) (go_keep)
    (first | (go_at_call 34;refine hcall.mono ?_;rintro e w2 ⟨rfl,hb2⟩;have hbd2:=hbd.trans (hb2.mono (by simp;have:=hb.size;omega));obtain ⟨⟨yy0,yy1,yy2,yy3,yy4⟩,xx0,xx1,xx2,xx3,xx4⟩:=hS w2 hbd2))
   all_goals go_wp2
   go_roundw
   case rel=> exact ⟨k + 1,by omega,by go_num,hbd2⟩
   case measure=> simp [intOf];omega
  ·obtain rfl:k=kids.length:=by omega
   go_wp2;go_ret;exact ⟨rfl,hbw⟩
theorem zj1 (s:Nat) (ihT:zfe s) (ihC:zfy s) (op:Int) (text:ByteArray) (args:List Exp) (defs:List zg) (kids:List Term) (hs:(Part.proc (.mk op text args defs kids)).size<=s + 1) (B:Nat) (u w:World) (c1 c2:List Value) (hu:zh B u w) (hBl:B<=w.heap.size)
  (hv1:ze B u c1 (.mk op text args defs kids)) (hv2:ze B u c2 (.mk op text args defs kids)):
  Calls Tryz.prog 34 #[.agg c1.toArray, .agg c2.toArray] w fun e w'=> e= .returned (.bool true)/\Below w.heap.size w w':=by
 unfold ze at hv1 hv2;obtain ⟨hz,_,_,_,rfl,⟨a0,p0,rfl,l0,h0⟩,⟨a1,p1,rfl,l1,h1⟩,⟨a2,p2,rfl,l2,h2⟩⟩:=hv1;obtain ⟨_,_,_,_,rfl,⟨b0',q0,rfl,_,g0⟩,⟨b1',q1,rfl,_,g1⟩,⟨b2',q2,rfl,_,g2⟩⟩:=hv2;obtain ⟨W1,hW1⟩:∃W1,W1=(w.alloc (.cells #[.int .i64 op, .string text, .slice a0 args.length p0, .slice a1 defs.length p1, .slice a2 kids.length p2] 33)).alloc (.cells #[.int .i64 op, .string text, .slice b0' args.length q0, .slice b1' defs.length q1, .slice b2' kids.length q2] 33):=⟨_,rfl⟩;have z1:W1.heap.size=w.heap.size + 2:=by rw [hW1];simp
 have b1:Below w.heap.size w W1:=by rw [hW1];exact (ZQ w _).alloc (by simp) _
 have hrd:∀W,Below (w.heap.size + 2) W1 W->zh B u W/\B<=W.heap.size/\Below w.heap.size w W:=by
  intro W h;have hb:=b1.trans (h.mono (by omega));exact ⟨hu.trans ((Below.keptC hb).mono hBl),by have:=hb.size;omega,hb⟩
 have hrd2:∀W,Below (w.heap.size + 2) W1 W->W.cell? ⟨w.heap.size,2,none⟩=some (.slice a0 args.length p0)/\W.cell? ⟨w.heap.size + 1,2,none⟩=some (.slice b0' args.length q0)/\zh B u W:=by
  intro W h;refine ⟨(h.cell (p:=⟨w.heap.size,2,none⟩) (by simp)).trans ?_,(h.cell (p:=⟨w.heap.size + 1,2,none⟩) (by simp)).trans ?_,(hrd W h).1⟩
  ·rw [hW1,ZP _ _ _ (by simp),ZA _ _ _ _ rfl];rfl
  ·rw [hW1,ZA _ _ _ _ (by simp)];rfl
 have hrd3:∀W,Below (w.heap.size + 2) W1 W->W.cell? ⟨w.heap.size,3,none⟩=some (.slice a1 defs.length p1)/\W.cell? ⟨w.heap.size + 1,3,none⟩=some (.slice b1' defs.length q1)/\zh B u W:=by
  intro W h;refine ⟨(h.cell (p:=⟨w.heap.size,3,none⟩) (by simp)).trans ?_,(h.cell (p:=⟨w.heap.size + 1,3,none⟩) (by simp)).trans ?_,(hrd W h).1⟩
  ·rw [hW1,ZP _ _ _ (by simp),ZA _ _ _ _ rfl];rfl
  ·rw [hW1,ZA _ _ _ _ (by simp)];rfl
 have hrd4:∀W,Below (w.heap.size + 2) W1 W->W.cell? ⟨w.heap.size,4,none⟩=some (.slice a2 kids.length p2)/\W.cell? ⟨w.heap.size + 1,4,none⟩=some (.slice b2' kids.length q2)/\zh B u W:=by
  intro W h;refine ⟨(h.cell (p:=⟨w.heap.size,4,none⟩) (by simp)).trans ?_,(h.cell (p:=⟨w.heap.size + 1,4,none⟩) (by simp)).trans ?_,(hrd W h).1⟩
  ·rw [hW1,ZP _ _ _ (by simp),ZA _ _ _ _ rfl];rfl
  ·rw [hW1,ZA _ _ _ _ (by simp)];rfl
 have hka:∀k,(h:k < args.length)->(Part.exp args[k]).size<=s:=fun k h=> by
  have:=qi (p:= .proc (.mk op text args defs kids)) (q:= .exp args[k]) (zda (ZM h));omega
 have hkd:∀k,(h:k < defs.length)->(Part.def_ defs[k]).size<=s:=fun k h=> by
  have:=qi (p:= .proc (.mk op text args defs kids)) (q:= .def_ defs[k]) (yu (ZM h));omega
 have hkk:∀k,(h:k < kids.length)->∀(B:Nat) (u w:World) (c1 c2:List Value),zh B u w->B<=w.heap.size->ze B u c1 kids[k]->ze B u c2 kids[k]->
   Calls Tryz.prog 34 #[.agg c1.toArray, .agg c2.toArray] w fun e w'=> e= .returned (.bool true)/\Below w.heap.size w w':=fun k h=> ihT kids[k] (by
  have:=qi (p:= .proc (.mk op text args defs kids)) (q:= .proc kids[k]) (qV (ZM h));omega)
 have HW:=ZH hW1;clear hW1 hs;go_enter Tryz.func34,Tryz.ntmps34;go_wp2;rw [<-HW.out]
 go_loopw [5] (fun i wr=> ∃(k:Nat),k<=args.length/\i= .int .i64 k/\Below (w.heap.size + 2) W1 wr) (fun i _=> args.length - (intOf i).toNat)
 case atStart=> exact ⟨0,by omega,rfl,ZF _ _⟩
 case round=>
  obtain ⟨k,hk,rfl,hb⟩:=hrel;obtain ⟨m0,m1,hu1⟩:=hrd2 wr hb;obtain ⟨hu1,hB1,hbw⟩:=hrd wr hb;by_cases hlt:k < args.length
  ·rcases h0 with h0 | ⟨b0,o0,rfl,hB0,hc0⟩
   ·rw [h0] at hlt;simp at hlt
   rcases g0 with h1 | ⟨b2,o2,rfl,hB2,hc2⟩
   ·rw [h1] at hlt;simp at hlt
   obtain ⟨d1,e1,f1⟩:=hc0.get args b0 o0 k hlt;obtain ⟨d2,e2,f2⟩:=hc2.get args b2 o2 k hlt;obtain ⟨g0,g1,g2,g3,g4,g5,rfl⟩:=qG f1;obtain ⟨i0,i1,i2,i3,i4,i5,rfl⟩:=qG f2;have hbd:=hb.drew;obtain ⟨hu2,hB2',_⟩:=hrd wr.drew hbd
   have hS:∀W,Below (w.heap.size + 2) W1 W->W.cell? ⟨w.heap.size,2,none⟩=some (.slice (some ⟨b0,o0,none⟩) args.length p0)/\W.cell? ⟨w.heap.size + 1,2,none⟩=some (.slice (some ⟨b2,o2,none⟩) args.length q0)/\(W.cell? ⟨b0,o0 + k * 4,none⟩=some (.int .i64 g0)/\W.cell? ⟨b0,o0 + k * 4 + 1,none⟩=some (.int .i64 g1)/\W.cell? ⟨b0,o0 + k * 4 + 2,none⟩=some (.string g2)/\W.cell? ⟨b0,o0 + k * 4 + 3,none⟩=some (.slice g3 g4 g5))/\W.cell? ⟨b2,o2 + k * 4,none⟩=some (.int .i64 i0)/\W.cell? ⟨b2,o2 + k * 4 + 1,none⟩=some (.int .i64 i1)/\W.cell? ⟨b2,o2 + k * 4 + 2,none⟩=some (.string i2)/\W.cell? ⟨b2,o2 + k * 4 + 3,none⟩=some (.slice i3 i4 i5):=fun W h=> by
    obtain ⟨y0,y1,hu2⟩:=hrd2 W h;exact ⟨y0,y1,jd (e1.keep hu2 hB0),jd (e2.keep hu2 hB2)⟩
   have hcall:=zk1 s args[k] (hka k hlt) B u wr.drew _ _ hu2 hB2' f1 f2;obtain ⟨z0,z1,⟨y0,y1,y2,y3⟩,x0,x1,x2,x3⟩:=hS _ hbd;clear f1 f2 hc0 hc2;go_wp2
   go_region_held3 (fun W=> W.cell? ⟨w.heap.size,2,none⟩=some (.slice (some ⟨b0,o0,none⟩) args.length p0)/\W.cell? ⟨w.heap.size + 1,2,none⟩=some (.slice (some ⟨b2,o2,none⟩) args.length q0)/\W.cell? ⟨b0,o0 + k * 4,none⟩=some (.int .i64 g0)/\W.cell? ⟨b0,o0 + k * 4 + 1,none⟩=some (.int .i64 g1)/\W.cell? ⟨b0,o0 + k * 4 + 2,none⟩=some (.string g2)/\W.cell? ⟨b0,o0 + k * 4 + 3,none⟩=some (.slice g3 g4 g5)/\W.cell? ⟨b2,o2 + k * 4,none⟩=some (.int .i64 i0)/\W.cell? ⟨b2,o2 + k * 4 + 1,none⟩=some (.int .i64 i1)/\W.cell? ⟨b2,o2 + k * 4 + 2,none⟩=some (.string i2)/\W.cell? ⟨b2,o2 + k * 4 + 3,none⟩=some (.slice i3 i4 i5)) (go_keep)
    (first | (go_at_call 89;refine hcall.mono ?_;rintro e w2 ⟨rfl,hb2⟩;have hbd2:=hbd.trans (hb2.mono (by simp;have:=hb.size;omega));obtain ⟨zz0,zz1,⟨yy0,yy1,yy2,yy3⟩,xx0,xx1,xx2,xx3⟩:=hS w2 hbd2))
   all_goals go_wp2
   go_roundw
   case rel=> exact ⟨k + 1,by omega,by go_num,hbd2⟩
   case measure=> simp [intOf];omega
  ·obtain rfl:k=args.length:=by omega
   go_wp2;have hbb:=hb;clear hb hu1 m0 m1
   go_loopw [6] (fun i wr=> ∃(k:Nat),k<=defs.length/\i= .int .i64 k/\Below (w.heap.size + 2) W1 wr) (fun i _=> defs.length - (intOf i).toNat)
   case atStart=> exact ⟨0,by omega,rfl,hbb⟩
   case round=>
    obtain ⟨k,hk,rfl,hb⟩:=hrel;obtain ⟨m0,m1,hu1⟩:=hrd3 wr hb;obtain ⟨hu1,hB1,hbw⟩:=hrd wr hb;by_cases hlt:k < defs.length
    ·rcases h1 with h0 | ⟨b0,o0,rfl,hB0,hc0⟩
     ·rw [h0] at hlt;simp at hlt
     rcases g1 with h1 | ⟨b2,o2,rfl,hB2,hc2⟩
     ·rw [h1] at hlt;simp at hlt
     obtain ⟨d1,e1,f1⟩:=hc0.get defs b0 o0 k hlt;obtain ⟨d2,e2,f2⟩:=hc2.get defs b2 o2 k hlt;obtain ⟨g0,g1,g2,g3,g4,g5,g6,g7,g8,g9,gA,rfl⟩:=qW f1;obtain ⟨i0,i1,i2,i3,i4,i5,i6,i7,i8,i9,iA,rfl⟩:=qW f2;have hbd:=hb.drew;obtain ⟨hu2,hB2',_⟩:=hrd wr.drew hbd
     have hS:∀W,Below (w.heap.size + 2) W1 W->W.cell? ⟨w.heap.size,3,none⟩=some (.slice (some ⟨b0,o0,none⟩) defs.length p1)/\W.cell? ⟨w.heap.size + 1,3,none⟩=some (.slice (some ⟨b2,o2,none⟩) defs.length q1)/\(W.cell? ⟨b0,o0 + k * 5,none⟩=some (.int .i64 g0)/\W.cell? ⟨b0,o0 + k * 5 + 1,none⟩=some (.string g1)/\W.cell? ⟨b0,o0 + k * 5 + 2,none⟩=some (.slice g2 g3 g4)/\W.cell? ⟨b0,o0 + k * 5 + 3,none⟩=some (.slice g5 g6 g7)/\W.cell? ⟨b0,o0 + k * 5 + 4,none⟩=some (.slice g8 g9 gA))/\W.cell? ⟨b2,o2 + k * 5,none⟩=some (.int .i64 i0)/\W.cell? ⟨b2,o2 + k * 5 + 1,none⟩=some (.string i1)/\W.cell? ⟨b2,o2 + k * 5 + 2,none⟩=some (.slice i2 i3 i4)/\W.cell? ⟨b2,o2 + k * 5 + 3,none⟩=some (.slice i5 i6 i7)/\W.cell? ⟨b2,o2 + k * 5 + 4,none⟩=some (.slice i8 i9 iA):=fun W h=> by
      obtain ⟨y0,y1,hu2⟩:=hrd3 W h;exact ⟨y0,y1,zK (e1.keep hu2 hB0),zK (e2.keep hu2 hB2)⟩
     have hcall:=ihC defs[k] (hkd k hlt) B u wr.drew _ _ hu2 hB2' f1 f2;obtain ⟨z0,z1,⟨y0,y1,y2,y3,y4⟩,x0,x1,x2,x3,x4⟩:=hS _ hbd;clear f1 f2 hc0 hc2;go_wp2
     go_region_held3 (fun W=> W.cell? ⟨w.heap.size,3,none⟩=some (.slice (some ⟨b0,o0,none⟩) defs.length p1)/\W.cell? ⟨w.heap.size + 1,3,none⟩=some (.slice (some ⟨b2,o2,none⟩) defs.length q1)/\W.cell? ⟨b0,o0 + k * 5,none⟩=some (.int .i64 g0)/\W.cell? ⟨b0,o0 + k * 5 + 1,none⟩=some (.string g1)/\W.cell? ⟨b0,o0 + k * 5 + 2,none⟩=some (.slice g2 g3 g4)/\W.cell? ⟨b0,o0 + k * 5 + 3,none⟩=some (.slice g5 g6 g7)/\W.cell? ⟨b0,o0 + k * 5 + 4,none⟩=some (.slice g8 g9 gA)/\W.cell? ⟨b2,o2 + k * 5,none⟩=some (.int .i64 i0)/\W.cell? ⟨b2,o2 + k * 5 + 1,none⟩=some (.string i1)/\W.cell? ⟨b2,o2 + k * 5 + 2,none⟩=some (.slice i2 i3 i4)/\W.cell? ⟨b2,o2 + k * 5 + 3,none⟩=some (.slice i5 i6 i7)/\W.cell? ⟨b2,o2 + k * 5 + 4,none⟩=some (.slice i8 i9 iA)) (go_keep)
      (first | (go_at_call 90;refine hcall.mono ?_;rintro e w2 ⟨rfl,hb2⟩;have hbd2:=hbd.trans (hb2.mono (by simp;have:=hb.size;omega));obtain ⟨zz0,zz1,⟨yy0,yy1,yy2,yy3,yy4⟩,xx0,xx1,xx2,xx3,xx4⟩:=hS w2 hbd2))
     all_goals go_wp2
     go_roundw
     case rel=> exact ⟨k + 1,by omega,by go_num,hbd2⟩
     case measure=> simp [intOf];omega
    ·obtain rfl:k=defs.length:=by omega
     obtain ⟨t0,t1,_⟩:=hrd4 wr hb;have hcall:=zcu kids hkk B u wr _ _ hu1 hB1 ⟨a2,p2,rfl,l2,h2⟩ ⟨b2',q2,rfl,l2,g2⟩;go_wp2_with (go_at_call 47;refine hcall.mono ?_;rintro e w2 ⟨rfl,hb2⟩);go_ret;exact ⟨rfl,hbw.trans (hb2.mono hbw.size)⟩
theorem zhE (s:ByteArray):hasB xn s=zF jR s.data.toList:=by
 unfold hasB zF;rw [show jR=xn.map zb from rfl,List.any_map]
 congr 1
 funext x
 simp only [Function.comp,ByteArray.toList_eq];rw [show zb x=x.data.toList from rfl];first | rfl | exact Bool.eq_iff_iff.2 (by simp [eq_comm]) | skip
theorem zbW (s:ByteArray):xv s=qn s:=by unfold xv qn;rw [zhE]
def rOne (s:ByteArray) (b:Bool):Bool:=(b && qn s) || (!b && s.size==0)
theorem xH (s:ByteArray) (b:Bool) (w:World) (hs:s.size<=maxLen):
  Calls Tryz.prog 112 #[.string s, .bool b] w fun e w'=> e= .returned (.bool (rOne s b))/\Below w.heap.size w w':=by
 have hR:=zb2 s w hs;rw [zbW] at hR;cases b with
 | true=>
  have HS:=ZH (show rOne s true=qn s by simp [rOne]);cases hn:qn s with
  | true=>
   rw [hn] at hR HS;clear hn;go_enter Tryz.func112,Tryz.ntmps112;go_wp2_with (go_at_call 15;refine hR.mono ?_;clear hR;rintro e w1 ⟨rfl,hb1⟩);go_ret;exact ⟨qA HS.out.symm,hb1⟩
  | false=>
   rw [hn] at hR HS;clear hn;go_enter Tryz.func112,Tryz.ntmps112;go_wp2_with (go_at_call 15;refine hR.mono ?_;clear hR;rintro e w1 ⟨rfl,hb1⟩);go_ret;exact ⟨qA HS.out.symm,hb1⟩
 | false=>
  have HS:=ZH (show rOne s false=(s.size==0) by simp [rOne]);go_enter Tryz.func112,Tryz.ntmps112;go_wp2;all_goals go_ret
  all_goals refine ⟨qA ?_,ZF _ _⟩
  all_goals rw [HS.out,Bool.eq_iff_iff]
  all_goals simp [zba,List.isEmpty_iff]
def jS (p:Part):Bool:=(zw 0 p).all (fun q=> q.1.shaped)
def jJ (ps:List Part):Bool:=ps.all jS
theorem zf9 (p:Part) (a b:Nat):(zw a p).all (fun q=> q.1.shaped)=(zw b p).all (fun q=> q.1.shaped):=by
 have h:=qJ a b p;have e:∀l:List (Part×Nat),l.all (fun q=> q.1.shaped)=(l.map (·.1)).all Part.shaped:=fun l=> by rw [List.all_map];rfl
 rw [e,e,h]
theorem zcG (p:Part):jS p=(p.shaped && jJ p.parts):=by
 rw [jS,zv,List.all_cons]
 congr 1
 unfold zM jJ;rw [List.all_flatMap]
 congr 1
 funext q
 rw [zf9 q (0 + 1) 0];rfl
theorem za4 (a b:List Part):jJ (a ++ b)=(jJ a && jJ b):=by simp [jJ,List.all_append]
theorem xj (a b:List Nat):maxL (a ++ b)=max (maxL a) (maxL b):=by
 have key:∀(l:List Nat) (x:Nat),l.foldl max x=max x (l.foldl max 0):=by
  intro l
  induction l with
  | nil=> intro x;simp
  | cons y l ih=> intro x;simp only [List.foldl_cons];rw [ih,ih (max 0 y)];omega
 simp only [maxL,List.foldl_append];exact key b _
def dps (ps:List Part):Nat:=maxL (ps.map Part.depth)
theorem zjQ (p:Part) (lev:Nat):((zw (lev + 1) p).map (·.2))=((zw lev p).map (·.2)).map (· + 1):=by
 have key:∀(s:Nat) (p:Part) (lev:Nat),p.size<=s->((zw (lev + 1) p).map (·.2))=((zw lev p).map (·.2)).map (· + 1):=by
  intro s
  induction s with
  | zero=> intro p lev hp;exact absurd (by rw [Part.size,zv];simp) (Nat.not_lt.2 hp)
  | succ s ih=>
   intro p lev hp;rw [zv,zv lev,List.map_cons,List.map_cons,List.map_cons]
   congr 1
   unfold zM;rw [List.map_flatMap,List.map_flatMap,List.map_flatMap];have:∀q∈p.parts,(zw (lev + 1 + 1) q).map (·.2)=((zw (lev + 1) q).map (·.2)).map (· + 1):=fun q hq=> ih q (lev + 1) (by have:=qi hq;omega);generalize p.parts=ps at this
   induction ps with
   | nil=> rfl
   | cons q ps ih2=> simp only [List.flatMap_cons];rw [this q (by simp),ih2 (fun x hx=> this x (by simp [hx]))]
 exact key p.size p lev (ZL _)
theorem zm4 (l:List Nat) (h:l≠ []):maxL (l.map (· + 1))=maxL l + 1:=by
 induction l with
 | nil=> exact absurd rfl h
 | cons x l ih=>
  have e:∀(y:Nat) (m:List Nat),maxL (y::m)=max y (maxL m):=fun y m=> by
   have:=xj [y] m;simpa [maxL] using this
  rw [List.map_cons,e,e];by_cases hl:l= []
  ·subst hl;simp [maxL]
  ·rw [ih hl];omega
theorem zlR (p:Part):p.depth=1 + dps p.parts:=by
 have key:∀ps:List Part,maxL ((zM 2 ps).map (·.2))=if ps= [] then 0 else 1 + dps ps:=by
  intro ps
  induction ps with
  | nil=> rfl
  | cons q ps ih=>
   have e:zM 2 (q::ps)=zw 2 q ++ zM 2 ps:=by simp [zM]
   have e2:maxL ((zw 2 q).map (·.2))=q.depth + 1:=by
    rw [zjQ q 1,zm4];rfl;rw [zv];simp
   have e3:dps (q::ps)=max q.depth (dps ps):=by
    have:=xj [q.depth] (ps.map Part.depth);simpa [dps,maxL] using this
   rw [e,List.map_append,xj,e2,ih,e3];by_cases hp:ps= []
   ·subst hp;simp [dps,maxL];omega
   ·simp [hp];omega
 rw [Part.depth,zv,List.map_cons];have:=xj [1] ((zM (1 + 1) p.parts).map (·.2));simp only [List.cons_append,List.nil_append] at this;rw [this,key];by_cases hp:p.parts= []
 ·rw [if_pos hp,hp];rfl
 ·rw [if_neg hp];simp [maxL]
theorem zi4 (a b:List Part):dps (a ++ b)=max (dps a) (dps b):=by simp [dps,xj]
def ROut (p:Part) (e:Ending):Prop:=∃n d:Nat,e= .returned (.tuple #[.int .i64 n, .int .i64 d, .bool (jS p)])/\n<=p.size/\d<=p.size/\(jS p=true->n=p.size/\d=p.depth)
def RMid (ps:List Part) (n d:Nat) (is:Bool):Prop:=is=jJ ps/\n<=1 + sz ps/\d<=sz ps/\(is=true->n=1 + sz ps/\d=dps ps)
theorem RMid.nil:RMid [] 1 0 true:=⟨rfl,by omega,by omega,fun _=> ⟨rfl,rfl⟩⟩
theorem RMid.step {ps:List Part} {q:Part} {n d m k:Nat} {is ok:Bool} (h:RMid ps n d is) (hm:m<=q.size) (hk:k<=q.size) (hok:ok=jS q) (hs:ok=true->m=q.size/\k=q.depth):RMid (ps ++ [q]) (n + m) (max d k) (is && ok):=by
 obtain ⟨rfl,h1,h2,h3⟩:=h;have e1:=qB ps [q];have e2:=zcf q;have e3:=zi4 ps [q];have e4:dps [q]=q.depth:=by simp [dps,maxL]
 refine ⟨by rw [za4,hok];simp [jJ],by omega,by omega,fun h=> ?_⟩;rw [Bool.and_eq_true] at h;have:=h3 h.1;have:=hs h.2;omega
theorem RMid.out {p:Part} {n d:Nat} {is:Bool} (h:RMid p.parts n d is) (hp:p.shaped=true):ROut p (.returned (.tuple #[.int .i64 n, .int .i64 ((d:Int) + 1), .bool is])):=by
 obtain ⟨h0,h1,h2,h3⟩:=h;have e1:=yV p;have e2:=zlR p;have e3:is=jS p:=by rw [zcG,hp,h0];rfl
 refine ⟨n,d + 1,by rw [e3];rfl,by omega,by omega,fun h=> ?_⟩;rw [<-e3] at h;have:=h3 h;omega
theorem ROut.no {p:Part} (hp:p.shaped=false):ROut p (.returned (.tuple #[.int .i64 1, .int .i64 1, .bool false])):=by
 have e1:=yV p;have e3:jS p=false:=by rw [zcG,hp];rfl
 exact ⟨1,1,by rw [e3];rfl,by omega,by omega,fun h=> by rw [e3] at h;cases h⟩
def rFn:Part->Nat
 | .proc _=> 59
 | .exp _=> 62
 | .def_ _=> 113
def RAt (s:Nat):Prop:=∀(p:Part),p.size<=s->p.size<=60->∀(B:Nat) (u w:World) (cs:List Value),zh B u w->B<=w.heap.size->zkr B u cs p->
 Calls Tryz.prog (rFn p) #[.agg cs.toArray] w fun e w'=> ROut p e/\Below w.heap.size w w'
theorem zdj {p:Prop} [Decidable p] (h:(!decide p)=false):p:=by simpa using h
theorem zi5 {op n:Int} {text:ByteArray} {lk:Nat} (hS:((op==1 && decide (-1000000000<=n) && decide (n<=1000000000) && text.size==0 && lk==0) ||
   (op==2 && n==0 && qn text && lk==0) || (decide (3<=op) && decide (op<=7) && n==0 && text.size==0 && lk==2))=false)
  (h1:1<=op) (h2:op<=7) (h3:rOne text (op==2)=true) (h4:3<=op/\lk=2∨op < 3/\lk=0) (h5:op=1∨n=0) (h6:-1000000000<=n) (h7:n<=1000000000):False:=by
 rw [Bool.eq_false_iff] at hS;apply hS;obtain rfl | rfl | h:op=1∨op=2∨3<=op:=by omega
 ·have e:text.size=0:=by simpa [rOne] using h3
  have e2:lk=0:=by omega
  simp [e,e2,h6,h7]
 ·have e:qn text=true:=by simpa [rOne] using h3
  have e2:lk=0:=by omega
  have e3:n=0:=by omega
  simp [e,e2,e3]
 ·have e0:(op==2)=false:=by simp;omega
  have e:text.size=0:=by simpa [rOne,e0] using h3
  have e2:lk=2:=by omega
  have e3:n=0:=by omega
  simp [e,e2,e3,h,h2]
theorem jw {a b:Int} (h:a=b):Value.int .i64 a= .int .i64 b:=by rw [h]
theorem znv (s:Nat) (ih:RAt s) (op n:Int) (text:ByteArray) (kids:List Exp) (hs:(Part.exp (.mk op n text kids)).size<=s + 1) (h60:(Part.exp (.mk op n text kids)).size<=60) (B:Nat) (u w:World) (cs:List Value) (hu:zh B u w) (hBl:B<=w.heap.size)
  (hv:zy B u cs (.mk op n text kids)):
  Calls Tryz.prog 62 #[.agg cs.toArray] w fun e w'=> ROut (.exp (.mk op n text kids)) e/\Below w.heap.size w w':=by
 unfold zy at hv;obtain ⟨hz,_,rfl,⟨a0,p0,rfl,l0,h0⟩⟩:=hv;have hss:=yV (Part.exp (.mk op n text kids));simp only [Part.parts] at hss
 have hkl:kids.length<=60:=by
  have:∀l:List Exp,l.length<=sz (l.map Part.exp):=by
   intro l;induction l with
   | nil=> simp
   | cons x l ih=>
    have e1:=qB [Part.exp x] (l.map Part.exp);have e2:=zcf (Part.exp x);have e3:=yV (Part.exp x);simp only [List.cons_append,List.nil_append] at e1;simp only [List.length_cons,List.map_cons];omega
  have:=this kids;omega
 obtain ⟨W1,hW1'⟩:∃W1,W1=w.alloc (.cells #[.int .i64 op, .int .i64 n, .string text, .slice a0 kids.length p0] 36):=⟨_,rfl⟩;have z1:W1.heap.size=w.heap.size + 1:=by rw [hW1'];simp
 have hW1:Below w.heap.size w W1:=by rw [hW1'];exact ZQ w _
 have hbox0:W1.cell? ⟨w.heap.size,3,none⟩=some (.slice a0 kids.length p0):=by
  rw [hW1',ZA _ _ _ _ rfl];rfl
 have HW:=ZH hW1';clear hW1';cases hsh:j8 (.mk op n text kids) with
 | false=>
  obtain ⟨lk,hlk⟩:∃lk,lk=kids.length:=⟨_,rfl⟩
  have hS:Hid (((op==1 && decide (-1000000000<=n) && decide (n<=1000000000) && text.size==0 && lk==0) ||
   (op==2 && n==0 && qn text && lk==0) || (decide (3<=op) && decide (op<=7) && n==0 && text.size==0 && lk==2))=false):=ZH (by rw [<-hsh,hlk];rfl)
  have HNO:=ZH (ROut.no (p:= .exp (.mk op n text kids)) hsh);rw [<-hlk] at hkl hbox0;have HW2:=HW.out;rw [<-hlk] at HW2 ⊢;clear h0 hsh hss hlk HW hbox0 hs;generalize Part.exp (.mk op n text kids)=p at HNO ⊢;clear h60;have HW:=ZH HW2;clear HW2;go_enter Tryz.func62,Tryz.ntmps62;go_wp2_with (go_at_call 112;refine (xH _ _ _ hz).mono ?_;rintro e w1 ⟨rfl,hb1⟩;have hc0:=(hb1.cell (p:=⟨w.heap.size,0,none⟩) (by simp)).trans (ZA _ _ _ _ rfl);have hc1:=(hb1.cell (p:=⟨w.heap.size,1,none⟩) (by simp)).trans (ZA _ _ _ _ rfl);have hc3:=(hb1.cell (p:=⟨w.heap.size,3,none⟩) (by simp)).trans (ZA _ _ _ _ rfl))
  all_goals first
   | (go_ret3;refine ⟨HNO.out,?_⟩;first | exact ZQ w _ | exact (ZQ w _).trans (hb1.mono (by simp)))
   | exact (zi5 hS.out (by omega) (by omega) (by assumption) (by omega) (by omega) (by omega) (by first | omega | exact zdj (by assumption))).elim
   | trace_state
 | true=>
  have HSH:=ZH (show (Part.exp (.mk op n text kids)).shaped=true from hsh);have h:=hsh;unfold j8 at h;simp only [Bool.or_eq_true,Bool.and_eq_true,beq_iff_eq,decide_eq_true_eq] at h;clear hsh;have Hss:=ZH hss;have hs60:sz (kids.map Part.exp)<=60:=by omega
  have hss:sz (kids.map Part.exp)<=s:=by omega
  rcases h with (⟨⟨⟨⟨rfl,h1⟩,h2⟩,h3⟩,h4⟩ | ⟨⟨⟨rfl,rfl⟩,h2⟩,h4⟩) | ⟨⟨⟨⟨h1,h2⟩,rfl⟩,h3⟩,h4⟩
  ·
   have HO:=ZH (show rOne text false=true by simp [rOne,h3]);have ht:((kids.length:Int)==0)=true:=by rw [h4];rfl
   have H4:=ZH h4;clear h4 h3;go_enter Tryz.func62,Tryz.ntmps62;go_wp2_with (go_at_call 112;refine (xH _ _ _ hz).mono ?_;rw [HO.out];rintro e w1 ⟨rfl,hb1⟩;have hc0:=(hb1.cell (p:=⟨w.heap.size,0,none⟩) (by simp)).trans (ZA _ _ _ _ rfl);have hc1:=(hb1.cell (p:=⟨w.heap.size,1,none⟩) (by simp)).trans (ZA _ _ _ _ rfl);have hc3:=(hb1.cell (p:=⟨w.heap.size,3,none⟩) (by simp)).trans (ZA _ _ _ _ rfl);have hB1:Below (w.heap.size + 1) W1 w1:=by rw [HW.out];exact hb1.mono (by simp))
   go_loopw [7,8,6,9] (fun vn vd vb i wr=> ∃(k n d:Nat) (b:Bool),k<=kids.length/\i= .int .i64 k/\vn= .int .i64 n/\vd= .int .i64 d/\vb= .bool b/\Hid (RMid ((kids.take k).map .exp) n d b)/\Below (w.heap.size + 1) W1 wr) (fun _ _ _ i _=> kids.length - (intOf i).toNat)
   case atStart=> exact ⟨0,1,0,true,by omega,rfl,rfl,rfl,rfl,ZH RMid.nil,hB1⟩
   case round=>
    obtain ⟨k,n,d,b,hk',rfl,rfl,rfl,rfl,hm,hB⟩:=hrel;have hBw:=hW1.trans (hB.mono (Nat.le_succ _));have hBz:=hB.size;have hbox:=(hB.cell (p:=⟨w.heap.size,3,none⟩) (by simp)).trans hbox0
    have hnd:n<=60/\d<=60:=by
     obtain ⟨_,q1,q2,_⟩:=hm.out;have:=j9 Part.exp kids k;try simp only [qB] at q1 q2
     omega
    obtain ⟨hn60,hd60⟩:=hnd;by_cases hlt:k < kids.length
    ·rcases h0 with h00 | ⟨bb,off,rfl,hb,hk⟩
     ·omega
     obtain ⟨cs,hcs,hexp⟩:=hk.get kids bb off k hlt;have hexp':=hexp;have hsm:=yU Part.exp hlt;obtain ⟨e0,he0⟩:∃e,e=kids[k]:=⟨_,rfl⟩
     have htk:(kids.take (k + 1)).map Part.exp=((kids.take k).map Part.exp) ++ [Part.exp e0]:=by
      rw [ZT hlt,List.map_append,he0];simp
     rw [<-he0] at hexp hexp' hsm;have hih:=ih (.exp e0) (by omega) (by omega) B u wr cs (hu.trans ((Below.keptC hBw).mono hBl)) (by omega) hexp';have HT:=ZH htk;clear htk;clear he0 hexp'
     have HE:∀e w2,ROut (.exp e0) e/\Below wr.heap.size wr w2->∃m l:Nat,∃ok:Bool,e= .returned (.tuple #[.int .i64 m, .int .i64 l, .bool ok])/\m<=60/\l<=60/\Hid (RMid ((kids.take (k + 1)).map .exp) (n + m) (max d l) (b && ok))/\Below wr.heap.size wr w2:=by
      rintro e w2 ⟨⟨m,l,rfl,h1,h2,h3⟩,hb2⟩;exact ⟨m,l,_,rfl,by omega,by omega,ZH (by rw [HT.out];exact hm.out.step h1 h2 rfl h3),hb2⟩
     have hih2:=hih.mono HE;clear hih HE;obtain ⟨o0,n0,t0,k0⟩:=e0;unfold zy at hexp;obtain ⟨_,_,rfl,x0,y0,rfl,_⟩:=hexp;obtain ⟨c0,c1,c2,c3⟩:=jd ((hcs.keep hu hb).below hBw (by omega));clear hcs hk;cases b with
     | true=>
      go_wp2_with (go_at_call 62;refine hih2.mono ?_;clear hih2;rintro e w2 ⟨m,l,ok,rfl,hm60,hl60,HR,hb2⟩)
      all_goals (
       go_roundw
       case rel=> exact ⟨k + 1,n + m,max d l,_,by omega,by go_num,by go_num,jw (by omega),rfl,ZH (by simpa using HR.out),hB.trans (hb2.mono (by have:=hB.size;simp at this ⊢;omega))⟩
       case measure=> simp [intOf];omega)
     | false=>
      go_wp2_with (go_at_call 62;refine hih2.mono ?_;clear hih2;rintro e w2 ⟨m,l,ok,rfl,hm60,hl60,HR,hb2⟩)
      all_goals (
       go_roundw
       case rel=> exact ⟨k + 1,n + m,max d l,false,by omega,by go_num,by go_num,jw (by omega),rfl,ZH (by simpa using HR.out),hB.trans (hb2.mono (by have:=hB.size;simp at this ⊢;omega))⟩
       case measure=> simp [intOf];omega)
    ·have hkl:k=kids.length:=by omega
     have hm2:=hm.out;rw [hkl,List.take_length] at hm2;have hmF:=ZH hm2;clear hm2 hm;obtain rfl:=hkl;go_wp2;go_ret3;exact ⟨RMid.out hmF.out HSH.out,hBw⟩
  ·
   have HO:=ZH (show rOne text true=true by simp [rOne,h2]);have ht:((kids.length:Int)==0)=true:=by rw [h4];rfl
   have H4:=ZH h4;clear h4 h2;go_enter Tryz.func62,Tryz.ntmps62;go_wp2_with (go_at_call 112;refine (xH _ _ _ hz).mono ?_;rw [HO.out];rintro e w1 ⟨rfl,hb1⟩;have hc0:=(hb1.cell (p:=⟨w.heap.size,0,none⟩) (by simp)).trans (ZA _ _ _ _ rfl);have hc1:=(hb1.cell (p:=⟨w.heap.size,1,none⟩) (by simp)).trans (ZA _ _ _ _ rfl);have hc3:=(hb1.cell (p:=⟨w.heap.size,3,none⟩) (by simp)).trans (ZA _ _ _ _ rfl);have hB1:Below (w.heap.size + 1) W1 w1:=by rw [HW.out];exact hb1.mono (by simp))
   go_loopw [7,8,6,9] (fun vn vd vb i wr=> ∃(k n d:Nat) (b:Bool),k<=kids.length/\i= .int .i64 k/\vn= .int .i64 n/\vd= .int .i64 d/\vb= .bool b/\Hid (RMid ((kids.take k).map .exp) n d b)/\Below (w.heap.size + 1) W1 wr) (fun _ _ _ i _=> kids.length - (intOf i).toNat)
   case atStart=> exact ⟨0,1,0,true,by omega,rfl,rfl,rfl,rfl,ZH RMid.nil,hB1⟩
   case round=>
    obtain ⟨k,n,d,b,hk',rfl,rfl,rfl,rfl,hm,hB⟩:=hrel;have hBw:=hW1.trans (hB.mono (Nat.le_succ _));have hBz:=hB.size;have hbox:=(hB.cell (p:=⟨w.heap.size,3,none⟩) (by simp)).trans hbox0
    have hnd:n<=60/\d<=60:=by
     obtain ⟨_,q1,q2,_⟩:=hm.out;have:=j9 Part.exp kids k;try simp only [qB] at q1 q2
     omega
    obtain ⟨hn60,hd60⟩:=hnd;by_cases hlt:k < kids.length
    ·rcases h0 with h00 | ⟨bb,off,rfl,hb,hk⟩
     ·omega
     obtain ⟨cs,hcs,hexp⟩:=hk.get kids bb off k hlt;have hexp':=hexp;have hsm:=yU Part.exp hlt;obtain ⟨e0,he0⟩:∃e,e=kids[k]:=⟨_,rfl⟩
     have htk:(kids.take (k + 1)).map Part.exp=((kids.take k).map Part.exp) ++ [Part.exp e0]:=by
      rw [ZT hlt,List.map_append,he0];simp
     rw [<-he0] at hexp hexp' hsm;have hih:=ih (.exp e0) (by omega) (by omega) B u wr cs (hu.trans ((Below.keptC hBw).mono hBl)) (by omega) hexp';have HT:=ZH htk;clear htk;clear he0 hexp'
     have HE:∀e w2,ROut (.exp e0) e/\Below wr.heap.size wr w2->∃m l:Nat,∃ok:Bool,e= .returned (.tuple #[.int .i64 m, .int .i64 l, .bool ok])/\m<=60/\l<=60/\Hid (RMid ((kids.take (k + 1)).map .exp) (n + m) (max d l) (b && ok))/\Below wr.heap.size wr w2:=by
      rintro e w2 ⟨⟨m,l,rfl,h1,h2,h3⟩,hb2⟩;exact ⟨m,l,_,rfl,by omega,by omega,ZH (by rw [HT.out];exact hm.out.step h1 h2 rfl h3),hb2⟩
     have hih2:=hih.mono HE;clear hih HE;obtain ⟨o0,n0,t0,k0⟩:=e0;unfold zy at hexp;obtain ⟨_,_,rfl,x0,y0,rfl,_⟩:=hexp;obtain ⟨c0,c1,c2,c3⟩:=jd ((hcs.keep hu hb).below hBw (by omega));clear hcs hk;cases b with
     | true=>
      go_wp2_with (go_at_call 62;refine hih2.mono ?_;clear hih2;rintro e w2 ⟨m,l,ok,rfl,hm60,hl60,HR,hb2⟩)
      all_goals (
       go_roundw
       case rel=> exact ⟨k + 1,n + m,max d l,_,by omega,by go_num,by go_num,jw (by omega),rfl,ZH (by simpa using HR.out),hB.trans (hb2.mono (by have:=hB.size;simp at this ⊢;omega))⟩
       case measure=> simp [intOf];omega)
     | false=>
      go_wp2_with (go_at_call 62;refine hih2.mono ?_;clear hih2;rintro e w2 ⟨m,l,ok,rfl,hm60,hl60,HR,hb2⟩)
      all_goals (
       go_roundw
       case rel=> exact ⟨k + 1,n + m,max d l,false,by omega,by go_num,by go_num,jw (by omega),rfl,ZH (by simpa using HR.out),hB.trans (hb2.mono (by have:=hB.size;simp at this ⊢;omega))⟩
       case measure=> simp [intOf];omega)
    ·have hkl:k=kids.length:=by omega
     have hm2:=hm.out;rw [hkl,List.take_length] at hm2;have hmF:=ZH hm2;clear hm2 hm;obtain rfl:=hkl;go_wp2;go_ret3;exact ⟨RMid.out hmF.out HSH.out,hBw⟩
  ·obtain rfl | rfl | rfl | rfl | rfl:op=3∨op=4∨op=5∨op=6∨op=7:=by omega
   all_goals (
   have HO:=ZH (show rOne text false=true by simp [rOne,h3]);have ht:((kids.length:Int)==2)=true:=by rw [h4];rfl
   have H4:=ZH h4;clear h4 h3;go_enter Tryz.func62,Tryz.ntmps62;go_wp2_with (go_at_call 112;refine (xH _ _ _ hz).mono ?_;rw [HO.out];rintro e w1 ⟨rfl,hb1⟩;have hc0:=(hb1.cell (p:=⟨w.heap.size,0,none⟩) (by simp)).trans (ZA _ _ _ _ rfl);have hc1:=(hb1.cell (p:=⟨w.heap.size,1,none⟩) (by simp)).trans (ZA _ _ _ _ rfl);have hc3:=(hb1.cell (p:=⟨w.heap.size,3,none⟩) (by simp)).trans (ZA _ _ _ _ rfl);have hB1:Below (w.heap.size + 1) W1 w1:=by rw [HW.out];exact hb1.mono (by simp))
   go_loopw [7,8,6,9] (fun vn vd vb i wr=> ∃(k n d:Nat) (b:Bool),k<=kids.length/\i= .int .i64 k/\vn= .int .i64 n/\vd= .int .i64 d/\vb= .bool b/\Hid (RMid ((kids.take k).map .exp) n d b)/\Below (w.heap.size + 1) W1 wr) (fun _ _ _ i _=> kids.length - (intOf i).toNat)
   case atStart=> exact ⟨0,1,0,true,by omega,rfl,rfl,rfl,rfl,ZH RMid.nil,hB1⟩
   case round=>
    obtain ⟨k,n,d,b,hk',rfl,rfl,rfl,rfl,hm,hB⟩:=hrel;have hBw:=hW1.trans (hB.mono (Nat.le_succ _));have hBz:=hB.size;have hbox:=(hB.cell (p:=⟨w.heap.size,3,none⟩) (by simp)).trans hbox0
    have hnd:n<=60/\d<=60:=by
     obtain ⟨_,q1,q2,_⟩:=hm.out;have:=j9 Part.exp kids k;try simp only [qB] at q1 q2
     omega
    obtain ⟨hn60,hd60⟩:=hnd;by_cases hlt:k < kids.length
    ·rcases h0 with h00 | ⟨bb,off,rfl,hb,hk⟩
     ·omega
     obtain ⟨cs,hcs,hexp⟩:=hk.get kids bb off k hlt;have hexp':=hexp;have hsm:=yU Part.exp hlt;obtain ⟨e0,he0⟩:∃e,e=kids[k]:=⟨_,rfl⟩
     have htk:(kids.take (k + 1)).map Part.exp=((kids.take k).map Part.exp) ++ [Part.exp e0]:=by
      rw [ZT hlt,List.map_append,he0];simp
     rw [<-he0] at hexp hexp' hsm;have hih:=ih (.exp e0) (by omega) (by omega) B u wr cs (hu.trans ((Below.keptC hBw).mono hBl)) (by omega) hexp';have HT:=ZH htk;clear htk;clear he0 hexp'
     have HE:∀e w2,ROut (.exp e0) e/\Below wr.heap.size wr w2->∃m l:Nat,∃ok:Bool,e= .returned (.tuple #[.int .i64 m, .int .i64 l, .bool ok])/\m<=60/\l<=60/\Hid (RMid ((kids.take (k + 1)).map .exp) (n + m) (max d l) (b && ok))/\Below wr.heap.size wr w2:=by
      rintro e w2 ⟨⟨m,l,rfl,h1,h2,h3⟩,hb2⟩;exact ⟨m,l,_,rfl,by omega,by omega,ZH (by rw [HT.out];exact hm.out.step h1 h2 rfl h3),hb2⟩
     have hih2:=hih.mono HE;clear hih HE;obtain ⟨o0,n0,t0,k0⟩:=e0;unfold zy at hexp;obtain ⟨_,_,rfl,x0,y0,rfl,_⟩:=hexp;obtain ⟨c0,c1,c2,c3⟩:=jd ((hcs.keep hu hb).below hBw (by omega));clear hcs hk;cases b with
     | true=>
      go_wp2_with (go_at_call 62;refine hih2.mono ?_;clear hih2;rintro e w2 ⟨m,l,ok,rfl,hm60,hl60,HR,hb2⟩)
      all_goals (
       go_roundw
       case rel=> exact ⟨k + 1,n + m,max d l,_,by omega,by go_num,by go_num,jw (by omega),rfl,ZH (by simpa using HR.out),hB.trans (hb2.mono (by have:=hB.size;simp at this ⊢;omega))⟩
       case measure=> simp [intOf];omega)
     | false=>
      go_wp2_with (go_at_call 62;refine hih2.mono ?_;clear hih2;rintro e w2 ⟨m,l,ok,rfl,hm60,hl60,HR,hb2⟩)
      all_goals (
       go_roundw
       case rel=> exact ⟨k + 1,n + m,max d l,false,by omega,by go_num,by go_num,jw (by omega),rfl,ZH (by simpa using HR.out),hB.trans (hb2.mono (by have:=hB.size;simp at this ⊢;omega))⟩
       case measure=> simp [intOf];omega)
    ·have hkl:k=kids.length:=by omega
     have hm2:=hm.out;rw [hkl,List.take_length] at hm2;have hmF:=ZH hm2;clear hm2 hm;obtain rfl:=hkl;go_wp2;go_ret3;exact ⟨RMid.out hmF.out HSH.out,hBw⟩)
end
end Go.Proofs.YtjmlaeofjjhfmaaGreat
