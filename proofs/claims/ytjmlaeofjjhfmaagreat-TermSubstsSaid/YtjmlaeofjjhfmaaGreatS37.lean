/- Lemmas. -/
import Derived.Test.YtjmlaeofjjhfmaaGreatS33
import Derived.Test.YtjmlaeofjjhfmaaGreatS12
set_option linter.unusedVariables false
set_option linter.unusedSimpArgs false
set_option maxRecDepth 10000
set_option maxHeartbeats 16000000
namespace Go.Proofs.YtjmlaeofjjhfmaaGreat
section
open Go.RowKit
theorem eqF146 (kids:List Exp) (B:Nat) (u w:World) (v1 v2:Value) (hu:zh B u w) (hBl:B<=w.heap.size) (hv1:SlAt B v1 kids.length (fun b off=> zW B u b off kids)) (hv2:SlAt B v2 kids.length (fun b off=> zW B u b off kids))
  (ih:∀k,(h:k < kids.length)->∀(w:World) (c1 c2:List Value),zh B u w->B<=w.heap.size->zy B u c1 kids[k]->zy B u c2 kids[k]->Calls Tryz.prog 147 #[.agg c1.toArray, .agg c2.toArray] w fun e w'=> e= .returned (.bool true)/\Below w.heap.size w w'):
  Calls Tryz.prog 146 #[v1,v2, .func (.func 147) #[] #[]] w fun e w'=> e= .returned (.bool true)/\Below w.heap.size w w':=by
 obtain ⟨a0,p0,rfl,l0,h0⟩:=hv1;obtain ⟨a1,p1,rfl,l1,h1⟩:=hv2;obtain ⟨nn,hnn⟩:∃n,n=kids.length:=⟨_,rfl⟩;have HN:=ZH hnn;rw [<-hnn] at l0 h0 h1 ⊢;clear hnn l1;go_enter Tryz.func146,Tryz.ntmps146;go_wp2
 go_loopw [17] (fun i wr=> ∃(k:Nat),k<=nn/\i= .int .i64 k/\Below w.heap.size w wr) (fun i _=> nn - (intOf i).toNat)
 case atStart=> exact ⟨0,by omega,rfl,ZF _ _⟩
 case round=>
  obtain ⟨k,hk,rfl,hb⟩:=hrel;by_cases hlt:k < nn
  ·have hkl:k < kids.length:=by rw [<-HN.out];exact hlt
   rcases h0 with h0 | ⟨b0,o0,rfl,hB0,hc0⟩
   ·omega
   rcases h1 with h1 | ⟨b2,o2,rfl,hB2,hc2⟩
   ·omega
   obtain ⟨d1,e1,f1⟩:=hc0.get kids b0 o0 k hkl;obtain ⟨d2,e2,f2⟩:=hc2.get kids b2 o2 k hkl;have ihk:=ih k hkl;obtain ⟨a,ha⟩:∃a,a=kids[k]:=⟨_,rfl⟩;rw [<-ha] at f1 f2 ihk;obtain ⟨g0,g1,g2,g3,g4,g5,rfl⟩:=qG f1;obtain ⟨i0,i1,i2,i3,i4,i5,rfl⟩:=qG f2
   have hKP:∀W,Below wr.heap.size wr W->zh B u W/\B<=W.heap.size:=fun W hW=> by
    have hh:=hb.trans (hW.mono hb.size);exact ⟨hu.trans ((Below.keptC hh).mono hBl),Nat.le_trans hBl hh.size⟩
   have hS:∀W,Below wr.heap.size wr W->W.cell? ⟨b2,o2 + k * 4,none⟩=some (.int .i64 i0)/\W.cell? ⟨b2,o2 + k * 4 + 1,none⟩=some (.int .i64 i1)/\W.cell? ⟨b2,o2 + k * 4 + 2,none⟩=some (.string i2)/\W.cell? ⟨b2,o2 + k * 4 + 3,none⟩=some (.slice i3 i4 i5):=fun W hW=> jd (e2.keep (hKP W hW).1 hB2);obtain ⟨y0,y1,y2,y3⟩:=jd (e1.keep (hKP wr (ZF _ _)).1 hB0);obtain ⟨W1,hW1⟩:∃W1,W1=wr.alloc (.cells #[.int .i64 g0, .int .i64 g1, .string g2, .slice g3 g4 g5] 36):=⟨_,rfl⟩;obtain ⟨W2,hW2⟩:∃W2,W2=W1.alloc (.cells #[.int .i64 i0, .int .i64 i1, .string i2, .slice i3 i4 i5] 36):=⟨_,rfl⟩;have s1:W1.heap.size=wr.heap.size + 1:=by rw [hW1];simp
   have s2:W2.heap.size=wr.heap.size + 2:=by rw [hW2];simp;omega
   have b1:Below wr.heap.size wr W1:=by rw [hW1];exact ZQ wr _
   have b2':Below wr.heap.size wr W2:=by rw [hW2];exact b1.alloc (by omega) _
   obtain ⟨z0,z1,z2,z3⟩:=hS W1 b1
   have hbx:W2.cell? ⟨wr.heap.size,0,none⟩=some (.int .i64 g0)/\W2.cell? ⟨wr.heap.size,1,none⟩=some (.int .i64 g1)/\W2.cell? ⟨wr.heap.size,2,none⟩=some (.string g2)/\W2.cell? ⟨wr.heap.size,3,none⟩=some (.slice g3 g4 g5)/\W2.cell? ⟨wr.heap.size + 1,0,none⟩=some (.int .i64 i0)/\W2.cell? ⟨wr.heap.size + 1,1,none⟩=some (.int .i64 i1)/\W2.cell? ⟨wr.heap.size + 1,2,none⟩=some (.string i2)/\W2.cell? ⟨wr.heap.size + 1,3,none⟩=some (.slice i3 i4 i5):=by
    refine ⟨?_,?_,?_,?_,?_,?_,?_,?_⟩
    all_goals first
     | (rw [hW2,ZP _ _ _ (by simp only [s1];omega),hW1,ZA _ _ _ _ rfl];rfl)
     | (rw [hW2,ZA _ _ _ _ (by simp only [s1])];rfl)
   obtain ⟨p0_,p1_,p2_,p3_,q0_,q1_,q2_,q3_⟩:=hbx;have hcall:=ihk W2 _ _ (hKP W2 b2').1 (hKP W2 b2').2 f1 f2;have HB:=ZH (And.intro hb b2');have HW:=ZH (And.intro hW1 hW2);rw [HW.out.1] at z0 z1 z2 z3;rw [HW.out.2,HW.out.1] at p0_ p1_ p2_ p3_ q0_ q1_ q2_ q3_;clear f1 f2 hc0 hc2 e1 e2 hS hKP hkl ha ih ihk hW1 hW2 s1 s2 b1 b2' hb;go_wp2_with fail;rw [<-HW.out.1,<-HW.out.2];refine hcall.mono ?_;clear hcall;rintro e w2 ⟨rfl,hb2⟩;go_wp2;go_roundw
   case rel=> exact ⟨k + 1,by omega,by go_num,HB.out.1.trans ((HB.out.2.trans (hb2.mono HB.out.2.size)).mono HB.out.1.size)⟩
   case measure=> simp [intOf];omega
  ·obtain rfl:k=nn:=by omega
   go_wp2;go_ret;exact ⟨rfl,hb⟩
theorem eqF148 (kids:List zg) (B:Nat) (u w:World) (v1 v2:Value) (hu:zh B u w) (hBl:B<=w.heap.size) (hv1:SlAt B v1 kids.length (fun b off=> zr B u b off kids)) (hv2:SlAt B v2 kids.length (fun b off=> zr B u b off kids))
  (ih:∀k,(h:k < kids.length)->∀(w:World) (c1 c2:List Value),zh B u w->B<=w.heap.size->zo B u c1 kids[k]->zo B u c2 kids[k]->Calls Tryz.prog 149 #[.agg c1.toArray, .agg c2.toArray] w fun e w'=> e= .returned (.bool true)/\Below w.heap.size w w'):
  Calls Tryz.prog 148 #[v1,v2, .func (.func 149) #[] #[]] w fun e w'=> e= .returned (.bool true)/\Below w.heap.size w w':=by
 obtain ⟨a0,p0,rfl,l0,h0⟩:=hv1;obtain ⟨a1,p1,rfl,l1,h1⟩:=hv2;obtain ⟨nn,hnn⟩:∃n,n=kids.length:=⟨_,rfl⟩;have HN:=ZH hnn;rw [<-hnn] at l0 h0 h1 ⊢;clear hnn l1;go_enter Tryz.func148,Tryz.ntmps148;go_wp2
 go_loopw [17] (fun i wr=> ∃(k:Nat),k<=nn/\i= .int .i64 k/\Below w.heap.size w wr) (fun i _=> nn - (intOf i).toNat)
 case atStart=> exact ⟨0,by omega,rfl,ZF _ _⟩
 case round=>
  obtain ⟨k,hk,rfl,hb⟩:=hrel;by_cases hlt:k < nn
  ·have hkl:k < kids.length:=by rw [<-HN.out];exact hlt
   rcases h0 with h0 | ⟨b0,o0,rfl,hB0,hc0⟩
   ·omega
   rcases h1 with h1 | ⟨b2,o2,rfl,hB2,hc2⟩
   ·omega
   obtain ⟨d1,e1,f1⟩:=hc0.get kids b0 o0 k hkl;obtain ⟨d2,e2,f2⟩:=hc2.get kids b2 o2 k hkl;have ihk:=ih k hkl;obtain ⟨a,ha⟩:∃a,a=kids[k]:=⟨_,rfl⟩;rw [<-ha] at f1 f2 ihk;obtain ⟨g0,g1,g2,g3,g4,g5,g6,g7,g8,g9,gA,rfl⟩:=qW f1;obtain ⟨i0,i1,i2,i3,i4,i5,i6,i7,i8,i9,iA,rfl⟩:=qW f2
   have hKP:∀W,Below wr.heap.size wr W->zh B u W/\B<=W.heap.size:=fun W hW=> by
    have hh:=hb.trans (hW.mono hb.size);exact ⟨hu.trans ((Below.keptC hh).mono hBl),Nat.le_trans hBl hh.size⟩
   have hS:∀W,Below wr.heap.size wr W->W.cell? ⟨b2,o2 + k * 5,none⟩=some (.int .i64 i0)/\W.cell? ⟨b2,o2 + k * 5 + 1,none⟩=some (.string i1)/\W.cell? ⟨b2,o2 + k * 5 + 2,none⟩=some (.slice i2 i3 i4)/\W.cell? ⟨b2,o2 + k * 5 + 3,none⟩=some (.slice i5 i6 i7)/\W.cell? ⟨b2,o2 + k * 5 + 4,none⟩=some (.slice i8 i9 iA):=fun W hW=> zK (e2.keep (hKP W hW).1 hB2);obtain ⟨y0,y1,y2,y3,y4⟩:=zK (e1.keep (hKP wr (ZF _ _)).1 hB0);obtain ⟨W1,hW1⟩:∃W1,W1=wr.alloc (.cells #[.int .i64 g0, .string g1, .slice g2 g3 g4, .slice g5 g6 g7, .slice g8 g9 gA] 130):=⟨_,rfl⟩;obtain ⟨W2,hW2⟩:∃W2,W2=W1.alloc (.cells #[.int .i64 i0, .string i1, .slice i2 i3 i4, .slice i5 i6 i7, .slice i8 i9 iA] 130):=⟨_,rfl⟩;have s1:W1.heap.size=wr.heap.size + 1:=by rw [hW1];simp
   have s2:W2.heap.size=wr.heap.size + 2:=by rw [hW2];simp;omega
   have b1:Below wr.heap.size wr W1:=by rw [hW1];exact ZQ wr _
   have b2':Below wr.heap.size wr W2:=by rw [hW2];exact b1.alloc (by omega) _
   obtain ⟨z0,z1,z2,z3,z4⟩:=hS W1 b1
   have hbx:W2.cell? ⟨wr.heap.size,0,none⟩=some (.int .i64 g0)/\W2.cell? ⟨wr.heap.size,1,none⟩=some (.string g1)/\W2.cell? ⟨wr.heap.size,2,none⟩=some (.slice g2 g3 g4)/\W2.cell? ⟨wr.heap.size,3,none⟩=some (.slice g5 g6 g7)/\W2.cell? ⟨wr.heap.size,4,none⟩=some (.slice g8 g9 gA)/\W2.cell? ⟨wr.heap.size + 1,0,none⟩=some (.int .i64 i0)/\W2.cell? ⟨wr.heap.size + 1,1,none⟩=some (.string i1)/\W2.cell? ⟨wr.heap.size + 1,2,none⟩=some (.slice i2 i3 i4)/\W2.cell? ⟨wr.heap.size + 1,3,none⟩=some (.slice i5 i6 i7)/\W2.cell? ⟨wr.heap.size + 1,4,none⟩=some (.slice i8 i9 iA):=by
    refine ⟨?_,?_,?_,?_,?_,?_,?_,?_,?_,?_⟩
    all_goals first
     | (rw [hW2,ZP _ _ _ (by simp only [s1];omega),hW1,ZA _ _ _ _ rfl];rfl)
     | (rw [hW2,ZA _ _ _ _ (by simp only [s1])];rfl)
   obtain ⟨p0_,p1_,p2_,p3_,p4_,q0_,q1_,q2_,q3_,q4_⟩:=hbx;have hcall:=ihk W2 _ _ (hKP W2 b2').1 (hKP W2 b2').2 f1 f2;have HB:=ZH (And.intro hb b2');have HW:=ZH (And.intro hW1 hW2);rw [HW.out.1] at z0 z1 z2 z3 z4;rw [HW.out.2,HW.out.1] at p0_ p1_ p2_ p3_ p4_ q0_ q1_ q2_ q3_ q4_;clear f1 f2 hc0 hc2 e1 e2 hS hKP hkl ha ih ihk hW1 hW2 s1 s2 b1 b2' hb;go_wp2_with fail;rw [<-HW.out.1,<-HW.out.2];refine hcall.mono ?_;clear hcall;rintro e w2 ⟨rfl,hb2⟩;go_wp2;go_roundw
   case rel=> exact ⟨k + 1,by omega,by go_num,HB.out.1.trans ((HB.out.2.trans (hb2.mono HB.out.2.size)).mono HB.out.1.size)⟩
   case measure=> simp [intOf];omega
  ·obtain rfl:k=nn:=by omega
   go_wp2;go_ret;exact ⟨rfl,hb⟩
theorem eqF150 (kids:List Term) (B:Nat) (u w:World) (v1 v2:Value) (hu:zh B u w) (hBl:B<=w.heap.size) (hv1:SlAt B v1 kids.length (fun b off=> zu B u b off kids)) (hv2:SlAt B v2 kids.length (fun b off=> zu B u b off kids))
  (ih:∀k,(h:k < kids.length)->∀(w:World) (c1 c2:List Value),zh B u w->B<=w.heap.size->ze B u c1 kids[k]->ze B u c2 kids[k]->Calls Tryz.prog 93 #[.agg c1.toArray, .agg c2.toArray] w fun e w'=> e= .returned (.bool true)/\Below w.heap.size w w'):
  Calls Tryz.prog 150 #[v1,v2, .func (.func 93) #[] #[]] w fun e w'=> e= .returned (.bool true)/\Below w.heap.size w w':=by
 obtain ⟨a0,p0,rfl,l0,h0⟩:=hv1;obtain ⟨a1,p1,rfl,l1,h1⟩:=hv2;obtain ⟨nn,hnn⟩:∃n,n=kids.length:=⟨_,rfl⟩;have HN:=ZH hnn;rw [<-hnn] at l0 h0 h1 ⊢;clear hnn l1;go_enter Tryz.func150,Tryz.ntmps150;go_wp2
 go_loopw [17] (fun i wr=> ∃(k:Nat),k<=nn/\i= .int .i64 k/\Below w.heap.size w wr) (fun i _=> nn - (intOf i).toNat)
 case atStart=> exact ⟨0,by omega,rfl,ZF _ _⟩
 case round=>
  obtain ⟨k,hk,rfl,hb⟩:=hrel;by_cases hlt:k < nn
  ·have hkl:k < kids.length:=by rw [<-HN.out];exact hlt
   rcases h0 with h0 | ⟨b0,o0,rfl,hB0,hc0⟩
   ·omega
   rcases h1 with h1 | ⟨b2,o2,rfl,hB2,hc2⟩
   ·omega
   obtain ⟨d1,e1,f1⟩:=hc0.get kids b0 o0 k hkl;obtain ⟨d2,e2,f2⟩:=hc2.get kids b2 o2 k hkl;have ihk:=ih k hkl;obtain ⟨a,ha⟩:∃a,a=kids[k]:=⟨_,rfl⟩;rw [<-ha] at f1 f2 ihk;obtain ⟨g0,g1,g2,g3,g4,g5,g6,g7,g8,g9,gA,rfl⟩:=zz f1;obtain ⟨i0,i1,i2,i3,i4,i5,i6,i7,i8,i9,iA,rfl⟩:=zz f2
   have hKP:∀W,Below wr.heap.size wr W->zh B u W/\B<=W.heap.size:=fun W hW=> by
    have hh:=hb.trans (hW.mono hb.size);exact ⟨hu.trans ((Below.keptC hh).mono hBl),Nat.le_trans hBl hh.size⟩
   have hS:∀W,Below wr.heap.size wr W->W.cell? ⟨b2,o2 + k * 5,none⟩=some (.int .i64 i0)/\W.cell? ⟨b2,o2 + k * 5 + 1,none⟩=some (.string i1)/\W.cell? ⟨b2,o2 + k * 5 + 2,none⟩=some (.slice i2 i3 i4)/\W.cell? ⟨b2,o2 + k * 5 + 3,none⟩=some (.slice i5 i6 i7)/\W.cell? ⟨b2,o2 + k * 5 + 4,none⟩=some (.slice i8 i9 iA):=fun W hW=> zK (e2.keep (hKP W hW).1 hB2);obtain ⟨y0,y1,y2,y3,y4⟩:=zK (e1.keep (hKP wr (ZF _ _)).1 hB0);obtain ⟨W1,hW1⟩:∃W1,W1=wr.alloc (.cells #[.int .i64 g0, .string g1, .slice g2 g3 g4, .slice g5 g6 g7, .slice g8 g9 gA] 33):=⟨_,rfl⟩;obtain ⟨W2,hW2⟩:∃W2,W2=W1.alloc (.cells #[.int .i64 i0, .string i1, .slice i2 i3 i4, .slice i5 i6 i7, .slice i8 i9 iA] 33):=⟨_,rfl⟩;have s1:W1.heap.size=wr.heap.size + 1:=by rw [hW1];simp
   have s2:W2.heap.size=wr.heap.size + 2:=by rw [hW2];simp;omega
   have b1:Below wr.heap.size wr W1:=by rw [hW1];exact ZQ wr _
   have b2':Below wr.heap.size wr W2:=by rw [hW2];exact b1.alloc (by omega) _
   obtain ⟨z0,z1,z2,z3,z4⟩:=hS W1 b1
   have hbx:W2.cell? ⟨wr.heap.size,0,none⟩=some (.int .i64 g0)/\W2.cell? ⟨wr.heap.size,1,none⟩=some (.string g1)/\W2.cell? ⟨wr.heap.size,2,none⟩=some (.slice g2 g3 g4)/\W2.cell? ⟨wr.heap.size,3,none⟩=some (.slice g5 g6 g7)/\W2.cell? ⟨wr.heap.size,4,none⟩=some (.slice g8 g9 gA)/\W2.cell? ⟨wr.heap.size + 1,0,none⟩=some (.int .i64 i0)/\W2.cell? ⟨wr.heap.size + 1,1,none⟩=some (.string i1)/\W2.cell? ⟨wr.heap.size + 1,2,none⟩=some (.slice i2 i3 i4)/\W2.cell? ⟨wr.heap.size + 1,3,none⟩=some (.slice i5 i6 i7)/\W2.cell? ⟨wr.heap.size + 1,4,none⟩=some (.slice i8 i9 iA):=by
    refine ⟨?_,?_,?_,?_,?_,?_,?_,?_,?_,?_⟩
    all_goals first
     | (rw [hW2,ZP _ _ _ (by simp only [s1];omega),hW1,ZA _ _ _ _ rfl];rfl)
     | (rw [hW2,ZA _ _ _ _ (by simp only [s1])];rfl)
   obtain ⟨p0_,p1_,p2_,p3_,p4_,q0_,q1_,q2_,q3_,q4_⟩:=hbx;have hcall:=ihk W2 _ _ (hKP W2 b2').1 (hKP W2 b2').2 f1 f2;have HB:=ZH (And.intro hb b2');have HW:=ZH (And.intro hW1 hW2);rw [HW.out.1] at z0 z1 z2 z3 z4;rw [HW.out.2,HW.out.1] at p0_ p1_ p2_ p3_ p4_ q0_ q1_ q2_ q3_ q4_;clear f1 f2 hc0 hc2 e1 e2 hS hKP hkl ha ih ihk hW1 hW2 s1 s2 b1 b2' hb;go_wp2_with fail;rw [<-HW.out.1,<-HW.out.2];refine hcall.mono ?_;clear hcall;rintro e w2 ⟨rfl,hb2⟩;go_wp2;go_roundw
   case rel=> exact ⟨k + 1,by omega,by go_num,HB.out.1.trans ((HB.out.2.trans (hb2.mono HB.out.2.size)).mono HB.out.1.size)⟩
   case measure=> simp [intOf];omega
  ·obtain rfl:k=nn:=by omega
   go_wp2;go_ret;exact ⟨rfl,hb⟩
theorem eqF175 (kids:List Msg) (B:Nat) (u w:World) (v1 v2:Value) (hu:zh B u w) (hBl:B<=w.heap.size) (hv1:SlAt B v1 kids.length (fun b off=> zX B u b off kids)) (hv2:SlAt B v2 kids.length (fun b off=> zX B u b off kids))
  (ih:∀k,(h:k < kids.length)->∀(w:World) (c1 c2:List Value),zh B u w->B<=w.heap.size->yK B u c1 kids[k]->yK B u c2 kids[k]->Calls Tryz.prog 176 #[.agg c1.toArray, .agg c2.toArray] w fun e w'=> e= .returned (.bool true)/\Below w.heap.size w w'):
  Calls Tryz.prog 175 #[v1,v2, .func (.func 176) #[] #[]] w fun e w'=> e= .returned (.bool true)/\Below w.heap.size w w':=by
 obtain ⟨a0,p0,rfl,l0,h0⟩:=hv1;obtain ⟨a1,p1,rfl,l1,h1⟩:=hv2;obtain ⟨nn,hnn⟩:∃n,n=kids.length:=⟨_,rfl⟩;have HN:=ZH hnn;rw [<-hnn] at l0 h0 h1 ⊢;clear hnn l1;go_enter Tryz.func175,Tryz.ntmps175;go_wp2
 go_loopw [17] (fun i wr=> ∃(k:Nat),k<=nn/\i= .int .i64 k/\Below w.heap.size w wr) (fun i _=> nn - (intOf i).toNat)
 case atStart=> exact ⟨0,by omega,rfl,ZF _ _⟩
 case round=>
  obtain ⟨k,hk,rfl,hb⟩:=hrel;by_cases hlt:k < nn
  ·have hkl:k < kids.length:=by rw [<-HN.out];exact hlt
   rcases h0 with h0 | ⟨b0,o0,rfl,hB0,hc0⟩
   ·omega
   rcases h1 with h1 | ⟨b2,o2,rfl,hB2,hc2⟩
   ·omega
   obtain ⟨d1,e1,f1⟩:=hc0.get kids b0 o0 k hkl;obtain ⟨d2,e2,f2⟩:=hc2.get kids b2 o2 k hkl;have ihk:=ih k hkl;obtain ⟨a,ha⟩:∃a,a=kids[k]:=⟨_,rfl⟩;rw [<-ha] at f1 f2 ihk;obtain ⟨g0,g1,g2,g3,rfl⟩:=zfF f1;obtain ⟨i0,i1,i2,i3,rfl⟩:=zfF f2
   have hKP:∀W,Below wr.heap.size wr W->zh B u W/\B<=W.heap.size:=fun W hW=> by
    have hh:=hb.trans (hW.mono hb.size);exact ⟨hu.trans ((Below.keptC hh).mono hBl),Nat.le_trans hBl hh.size⟩
   have hS:∀W,Below wr.heap.size wr W->W.cell? ⟨b2,o2 + k * 2,none⟩=some (.string i0)/\W.cell? ⟨b2,o2 + k * 2 + 1,none⟩=some (.slice i1 i2 i3):=fun W hW=> yO (e2.keep (hKP W hW).1 hB2);obtain ⟨y0,y1⟩:=yO (e1.keep (hKP wr (ZF _ _)).1 hB0);obtain ⟨W1,hW1⟩:∃W1,W1=wr.alloc (.cells #[.string g0, .slice g1 g2 g3] 144):=⟨_,rfl⟩;obtain ⟨W2,hW2⟩:∃W2,W2=W1.alloc (.cells #[.string i0, .slice i1 i2 i3] 144):=⟨_,rfl⟩;have s1:W1.heap.size=wr.heap.size + 1:=by rw [hW1];simp
   have s2:W2.heap.size=wr.heap.size + 2:=by rw [hW2];simp;omega
   have b1:Below wr.heap.size wr W1:=by rw [hW1];exact ZQ wr _
   have b2':Below wr.heap.size wr W2:=by rw [hW2];exact b1.alloc (by omega) _
   obtain ⟨z0,z1⟩:=hS W1 b1
   have hbx:W2.cell? ⟨wr.heap.size,0,none⟩=some (.string g0)/\W2.cell? ⟨wr.heap.size,1,none⟩=some (.slice g1 g2 g3)/\W2.cell? ⟨wr.heap.size + 1,0,none⟩=some (.string i0)/\W2.cell? ⟨wr.heap.size + 1,1,none⟩=some (.slice i1 i2 i3):=by
    refine ⟨?_,?_,?_,?_⟩
    all_goals first
     | (rw [hW2,ZP _ _ _ (by simp only [s1];omega),hW1,ZA _ _ _ _ rfl];rfl)
     | (rw [hW2,ZA _ _ _ _ (by simp only [s1])];rfl)
   obtain ⟨p0_,p1_,q0_,q1_⟩:=hbx;have hcall:=ihk W2 _ _ (hKP W2 b2').1 (hKP W2 b2').2 f1 f2;have HB:=ZH (And.intro hb b2');have HW:=ZH (And.intro hW1 hW2);rw [HW.out.1] at z0 z1;rw [HW.out.2,HW.out.1] at p0_ p1_ q0_ q1_;clear f1 f2 hc0 hc2 e1 e2 hS hKP hkl ha ih ihk hW1 hW2 s1 s2 b1 b2' hb;go_wp2_with fail;rw [<-HW.out.1,<-HW.out.2];refine hcall.mono ?_;clear hcall;rintro e w2 ⟨rfl,hb2⟩;go_wp2;go_roundw
   case rel=> exact ⟨k + 1,by omega,by go_num,HB.out.1.trans ((HB.out.2.trans (hb2.mono HB.out.2.size)).mono HB.out.1.size)⟩
   case measure=> simp [intOf];omega
  ·obtain rfl:k=nn:=by omega
   go_wp2;go_ret;exact ⟨rfl,hb⟩
theorem eq191 (ss:List ByteArray) (B:Nat) (u w:World) (v1 v2:Value) (hu:zh B u w) (hBl:B<=w.heap.size) (hv1:zx B u v1 ss) (hv2:zx B u v2 ss):
  Calls Tryz.prog 191 #[v1,v2] w fun e w'=> e= .returned (.bool true)/\Below w.heap.size w w':=by
 replace hv1:=hv1.keep hu
 replace hv2:=hv2.keep hu
 obtain ⟨a0,p0,rfl,l0,_,_,h0⟩:=hv1;obtain ⟨a1,p1,rfl,_,_,_,h1⟩:=hv2;obtain ⟨nn,hnn⟩:∃n,n=ss.length:=⟨_,rfl⟩;have HN:=ZH hnn;have h0':nn=0∨∃b off,a0=some ⟨b,off,none⟩/\b < B/\zbw w b off ss:=by rcases h0 with h | h;exact .inl (by rw [hnn,h];rfl);exact .inr h
 have h1':nn=0∨∃b off,a1=some ⟨b,off,none⟩/\b < B/\zbw w b off ss:=by rcases h1 with h | h;exact .inl (by rw [hnn,h];rfl);exact .inr h
 clear h0 h1;rw [<-hnn] at l0 ⊢;clear hnn;go_enter Tryz.func191,Tryz.ntmps191;go_wp2
 go_loopw [13] (fun i wr=> ∃(k:Nat),k<=nn/\i= .int .i64 k/\Below w.heap.size w wr) (fun i _=> nn - (intOf i).toNat)
 case atStart=> exact ⟨0,by omega,rfl,ZF _ _⟩
 case round=>
  obtain ⟨k,hk,rfl,hb⟩:=hrel;by_cases hlt:k < nn
  ·have hkl:k < ss.length:=by rw [<-HN.out];exact hlt
   rcases h0' with h0 | ⟨b0,o0,rfl,hB0,hc0⟩
   ·omega
   rcases h1' with h1 | ⟨b2,o2,rfl,hB2,hc2⟩
   ·omega
   have hbd:=hb.drew;have x0:wr.cell? ⟨b0,o0 + k,none⟩=some (.string ss[k]):=(hb.cell (p:=⟨b0,o0 + k,none⟩) (by show b0 < _;omega)).trans (hc0 k hkl);have x1:wr.cell? ⟨b2,o2 + k,none⟩=some (.string ss[k]):=(hb.cell (p:=⟨b2,o2 + k,none⟩) (by show b2 < _;omega)).trans (hc2 k hkl);have y0:wr.drew.cell? ⟨b0,o0 + k,none⟩=some (.string ss[k]):=x0;have y1:wr.drew.cell? ⟨b2,o2 + k,none⟩=some (.string ss[k]):=x1;obtain ⟨s,hs⟩:∃s,s=ss[k]:=⟨_,rfl⟩;rw [<-hs] at x0 x1 y0 y1;clear hc0 hc2 hs hkl;go_wp2
   go_region
   go_wp2;go_roundw
   case rel=> exact ⟨k + 1,by omega,by go_num,hbd⟩
   case measure=> simp [intOf];omega
  ·obtain rfl:k=nn:=by omega
   go_wp2;go_ret;exact ⟨rfl,hb⟩
theorem eq176 (m:Msg) (B:Nat) (u w:World) (c1 c2:List Value) (hu:zh B u w) (hBl:B<=w.heap.size) (hv1:yK B u c1 m) (hv2:yK B u c2 m):
  Calls Tryz.prog 176 #[.agg c1.toArray, .agg c2.toArray] w fun e w'=> e= .returned (.bool true)/\Below w.heap.size w w':=by
 obtain ⟨text,names⟩:=m;obtain ⟨_,v1,rfl,st1⟩:=hv1;obtain ⟨_,v2,rfl,st2⟩:=hv2;have st1':=st1;have st2':=st2;obtain ⟨ja0,jp0,rfl,jl0,_⟩:=st1;obtain ⟨ja1,jp1,rfl,jl1,_⟩:=st2;show Calls Tryz.prog 176 #[.agg #[.string text, .slice ja0 names.length jp0], .agg #[.string text, .slice ja1 names.length jp1]] w _;obtain ⟨W1,hW1⟩:∃W1,W1=(w.alloc (.cells #[.string text, .slice ja0 names.length jp0] 144)).alloc (.cells #[.string text, .slice ja1 names.length jp1] 144):=⟨_,rfl⟩;have b1:Below w.heap.size w W1:=by rw [hW1];exact (ZQ w _).alloc (by simp) _
 have hcall:=eq191 names B u W1 _ _ (hu.trans ((Below.keptC b1).mono hBl)) (by have:=b1.size;omega) st1' st2';have HW:=ZH (And.intro hW1 b1);clear hW1 b1 st1' st2';go_enter Tryz.func176,Tryz.ntmps176;go_wp2_with fail;rw [<-HW.out.1];refine hcall.mono ?_;clear hcall;rintro e w2 ⟨rfl,hb2⟩;go_wp2;go_ret;exact ⟨rfl,HW.out.2.trans (hb2.mono HW.out.2.size)⟩
def EqEAt (s:Nat):Prop:=∀(t:Exp),(Part.exp t).size<=s->∀(B:Nat) (u w:World) (c1 c2:List Value),zh B u w->B<=w.heap.size->zy B u c1 t->zy B u c2 t->
 Calls Tryz.prog 147 #[.agg c1.toArray, .agg c2.toArray] w fun e w'=> e= .returned (.bool true)/\Below w.heap.size w w'
theorem eqE_one (s:Nat) (ih:EqEAt s) (op n:Int) (text:ByteArray) (kids:List Exp) (hs:(Part.exp (.mk op n text kids)).size<=s + 1) (B:Nat) (u w:World) (c1 c2:List Value) (hu:zh B u w) (hBl:B<=w.heap.size)
  (hv1:zy B u c1 (.mk op n text kids)) (hv2:zy B u c2 (.mk op n text kids)):
  Calls Tryz.prog 147 #[.agg c1.toArray, .agg c2.toArray] w fun e w'=> e= .returned (.bool true)/\Below w.heap.size w w':=by
 unfold zy at hv1 hv2;obtain ⟨hz,_,rfl,⟨a0,p0,rfl,l0,h0⟩⟩:=hv1;obtain ⟨_,_,rfl,⟨a1,p1,rfl,l1,h1⟩⟩:=hv2;obtain ⟨W1,hW1⟩:∃W1,W1=(w.alloc (.cells #[.int .i64 op, .int .i64 n, .string text, .slice a0 kids.length p0] 36)).alloc (.cells #[.int .i64 op, .int .i64 n, .string text, .slice a1 kids.length p1] 36):=⟨_,rfl⟩;have b1:Below w.heap.size w W1:=by rw [hW1];exact (ZQ w _).alloc (by simp) _
 have hkid:∀k,(h:k < kids.length)->(Part.exp kids[k]).size<=s:=fun k h=> by
  have:=qi (p:= .exp (.mk op n text kids)) (q:= .exp kids[k]) (by rw [Part.parts];exact List.mem_map.2 ⟨_,ZM h,rfl⟩);omega
 have hcall:=eqF146 kids B u W1 _ _ (hu.trans ((Below.keptC b1).mono hBl)) (by have:=b1.size;omega) ⟨a0,p0,rfl,l0,h0⟩ ⟨a1,p1,rfl,l1,h1⟩ (fun k h w c1 c2 h1 h2 h3 h4=> ih kids[k] (hkid k h) B u w c1 c2 h1 h2 h3 h4);have HW:=ZH (And.intro hW1 b1);clear hW1 b1 hs h0 h1 hkid ih;go_enter Tryz.func147,Tryz.ntmps147;go_wp2_with fail;rw [<-HW.out.1];refine hcall.mono ?_;clear hcall;rintro e w2 ⟨rfl,hb2⟩;go_wp2;go_ret;exact ⟨rfl,HW.out.2.trans (hb2.mono HW.out.2.size)⟩
theorem eqE_all:∀s,EqEAt s:=by
 intro s
 induction s with
 | zero=> intro t ht;have:=yD (.exp t);omega
 | succ s ih=>
  intro t ht B u w c1 c2 hu hB h1 h2;obtain ⟨op,n,text,kids⟩:=t;exact eqE_one s ih op n text kids ht B u w c1 c2 hu hB h1 h2
def EqTAt (s:Nat):Prop:=∀(t:Term),(Part.proc t).size<=s->∀(B:Nat) (u w:World) (c1 c2:List Value),zh B u w->B<=w.heap.size->ze B u c1 t->ze B u c2 t->
 Calls Tryz.prog 93 #[.agg c1.toArray, .agg c2.toArray] w fun e w'=> e= .returned (.bool true)/\Below w.heap.size w w'
def EqCAt (s:Nat):Prop:=∀(t:zg),(Part.def_ t).size<=s->∀(B:Nat) (u w:World) (c1 c2:List Value),zh B u w->B<=w.heap.size->zo B u c1 t->zo B u c2 t->
 Calls Tryz.prog 149 #[.agg c1.toArray, .agg c2.toArray] w fun e w'=> e= .returned (.bool true)/\Below w.heap.size w w'
theorem eqT_one (s:Nat) (ihT:EqTAt s) (ihC:EqCAt s) (op:Int) (text:ByteArray) (args:List Exp) (defs:List zg) (kids:List Term) (hs:(Part.proc (.mk op text args defs kids)).size<=s + 1) (B:Nat) (u w:World) (c1 c2:List Value) (hu:zh B u w) (hBl:B<=w.heap.size)
  (hv1:ze B u c1 (.mk op text args defs kids)) (hv2:ze B u c2 (.mk op text args defs kids)):
  Calls Tryz.prog 93 #[.agg c1.toArray, .agg c2.toArray] w fun e w'=> e= .returned (.bool true)/\Below w.heap.size w w':=by
 unfold ze at hv1 hv2;obtain ⟨hz,_,_,_,rfl,⟨a0,p0,rfl,l0,h0⟩,⟨a1,p1,rfl,l1,h1⟩,⟨a2,p2,rfl,l2,h2⟩⟩:=hv1;obtain ⟨_,_,_,_,rfl,⟨b0',q0,rfl,_,g0⟩,⟨b1',q1,rfl,_,g1⟩,⟨b2',q2,rfl,_,g2⟩⟩:=hv2
 have hkd:∀k,(h:k < defs.length)->(Part.def_ defs[k]).size<=s:=fun k h=> by
  have:=qi (p:= .proc (.mk op text args defs kids)) (q:= .def_ defs[k]) (yu (ZM h));omega
 have hkk:∀k,(h:k < kids.length)->(Part.proc kids[k]).size<=s:=fun k h=> by
  have:=qi (p:= .proc (.mk op text args defs kids)) (q:= .proc kids[k]) (qV (ZM h));omega
 obtain ⟨W1,hW1⟩:∃W1,W1=(w.alloc (.cells #[.int .i64 op, .string text, .slice a0 args.length p0, .slice a1 defs.length p1, .slice a2 kids.length p2] 33)).alloc (.cells #[.int .i64 op, .string text, .slice b0' args.length q0, .slice b1' defs.length q1, .slice b2' kids.length q2] 33):=⟨_,rfl⟩;have z1:W1.heap.size=w.heap.size + 2:=by rw [hW1];simp
 have b1:Below w.heap.size w W1:=by rw [hW1];exact (ZQ w _).alloc (by simp) _
 have hrd:∀W,Below W1.heap.size W1 W->(W.cell? ⟨w.heap.size,3,none⟩=some (.slice a1 defs.length p1)/\W.cell? ⟨w.heap.size + 1,3,none⟩=some (.slice b1' defs.length q1)/\W.cell? ⟨w.heap.size,4,none⟩=some (.slice a2 kids.length p2)/\W.cell? ⟨w.heap.size + 1,4,none⟩=some (.slice b2' kids.length q2))/\zh B u W/\B<=W.heap.size/\Below w.heap.size w W:=by
  intro W h;have hb:=b1.trans (h.mono (by omega));refine ⟨⟨(h.cell (p:=⟨w.heap.size,3,none⟩) (by simp;omega)).trans ?_,(h.cell (p:=⟨w.heap.size + 1,3,none⟩) (by simp;omega)).trans ?_,(h.cell (p:=⟨w.heap.size,4,none⟩) (by simp;omega)).trans ?_,(h.cell (p:=⟨w.heap.size + 1,4,none⟩) (by simp;omega)).trans ?_⟩,hu.trans ((Below.keptC hb).mono hBl),by have:=hb.size;omega,hb⟩
  ·rw [hW1,ZP _ _ _ (by simp),ZA _ _ _ _ rfl];rfl
  ·rw [hW1,ZA _ _ _ _ (by simp)];rfl
  ·rw [hW1,ZP _ _ _ (by simp),ZA _ _ _ _ rfl];rfl
  ·rw [hW1,ZA _ _ _ _ (by simp)];rfl
 have r1:=hrd W1 (ZF _ _);have K0:=eqF146 args B u W1 _ _ r1.2.1 r1.2.2.1 ⟨a0,p0,rfl,l0,h0⟩ ⟨b0',q0,rfl,l0,g0⟩ (fun k h w c1 c2 h1 h2 h3 h4=> eqE_all _ args[k] (ZL _) B u w c1 c2 h1 h2 h3 h4);have K1:=fun W h1' h2'=> eqF148 defs B u W _ _ h1' h2' ⟨a1,p1,rfl,l1,h1⟩ ⟨b1',q1,rfl,l1,g1⟩ (fun k h w c1 c2 h1 h2 h3 h4=> ihC defs[k] (hkd k h) B u w c1 c2 h1 h2 h3 h4);have K2:=fun W h1' h2'=> eqF150 kids B u W _ _ h1' h2' ⟨a2,p2,rfl,l2,h2⟩ ⟨b2',q2,rfl,l2,g2⟩ (fun k h w c1 c2 h1 h2 h3 h4=> ihT kids[k] (hkk k h) B u w c1 c2 h1 h2 h3 h4);have HW:=ZH hW1;have HRD:=ZH hrd;have HK1:=ZH K1;have HK2:=ZH K2;clear hW1 b1 hs h0 h1 h2 g0 g1 g2 hkd hkk ihT ihC hrd K1 K2 r1 z1;go_enter Tryz.func93,Tryz.ntmps93;go_wp2_with fail;rw [<-HW.out];refine K0.mono ?_;clear K0;rintro e w2 ⟨rfl,hb2⟩;obtain ⟨⟨x0,x1,x2,x3⟩,y0,y1,_⟩:=HRD.out w2 hb2;have K1:=HK1.out w2 y0 y1;clear HK1;go_wp2_with fail;refine K1.mono ?_;clear K1;rintro e w3 ⟨rfl,hb3'⟩;have hb3:=hb2.trans (hb3'.mono hb2.size);clear x0 x1 x2 x3 y0 y1 hb3' hb2;obtain ⟨⟨x0,x1,x2,x3⟩,y0,y1,_⟩:=HRD.out w3 hb3;have K2:=HK2.out w3 y0 y1;clear HK2;go_wp2_with fail;refine K2.mono ?_;clear K2;rintro e w4 ⟨rfl,hb4'⟩;have hb4:=hb3.trans (hb4'.mono hb3.size);clear hb4' hb3 x0 x1 x2 x3 y0 y1;go_wp2;go_ret;exact ⟨rfl,(HRD.out w4 hb4).2.2.2⟩
theorem eqC_one (s:Nat) (ihT:EqTAt s) (ihC:EqCAt s) (form:Int) (text:ByteArray) (joins:List Msg) (defs:List zg) (kids:List Term) (hs:(Part.def_ (.mk form text joins defs kids)).size<=s + 1) (B:Nat) (u w:World) (c1 c2:List Value) (hu:zh B u w) (hBl:B<=w.heap.size)
  (hv1:zo B u c1 (.mk form text joins defs kids)) (hv2:zo B u c2 (.mk form text joins defs kids)):
  Calls Tryz.prog 149 #[.agg c1.toArray, .agg c2.toArray] w fun e w'=> e= .returned (.bool true)/\Below w.heap.size w w':=by
 unfold zo at hv1 hv2;obtain ⟨hz,_,_,_,rfl,⟨a0,p0,rfl,l0,h0⟩,⟨a1,p1,rfl,l1,h1⟩,⟨a2,p2,rfl,l2,h2⟩⟩:=hv1;obtain ⟨_,_,_,_,rfl,⟨b0',q0,rfl,_,g0⟩,⟨b1',q1,rfl,_,g1⟩,⟨b2',q2,rfl,_,g2⟩⟩:=hv2
 have hkd:∀k,(h:k < defs.length)->(Part.def_ defs[k]).size<=s:=fun k h=> by
  have:=qi (p:= .def_ (.mk form text joins defs kids)) (q:= .def_ defs[k]) (ji (ZM h));omega
 have hkk:∀k,(h:k < kids.length)->(Part.proc kids[k]).size<=s:=fun k h=> by
  have:=qi (p:= .def_ (.mk form text joins defs kids)) (q:= .proc kids[k]) (jl (ZM h));omega
 obtain ⟨W1,hW1⟩:∃W1,W1=(w.alloc (.cells #[.int .i64 form, .string text, .slice a0 joins.length p0, .slice a1 defs.length p1, .slice a2 kids.length p2] 130)).alloc (.cells #[.int .i64 form, .string text, .slice b0' joins.length q0, .slice b1' defs.length q1, .slice b2' kids.length q2] 130):=⟨_,rfl⟩;have z1:W1.heap.size=w.heap.size + 2:=by rw [hW1];simp
 have b1:Below w.heap.size w W1:=by rw [hW1];exact (ZQ w _).alloc (by simp) _
 have hrd:∀W,Below W1.heap.size W1 W->(W.cell? ⟨w.heap.size,3,none⟩=some (.slice a1 defs.length p1)/\W.cell? ⟨w.heap.size + 1,3,none⟩=some (.slice b1' defs.length q1)/\W.cell? ⟨w.heap.size,4,none⟩=some (.slice a2 kids.length p2)/\W.cell? ⟨w.heap.size + 1,4,none⟩=some (.slice b2' kids.length q2))/\zh B u W/\B<=W.heap.size/\Below w.heap.size w W:=by
  intro W h;have hb:=b1.trans (h.mono (by omega));refine ⟨⟨(h.cell (p:=⟨w.heap.size,3,none⟩) (by simp;omega)).trans ?_,(h.cell (p:=⟨w.heap.size + 1,3,none⟩) (by simp;omega)).trans ?_,(h.cell (p:=⟨w.heap.size,4,none⟩) (by simp;omega)).trans ?_,(h.cell (p:=⟨w.heap.size + 1,4,none⟩) (by simp;omega)).trans ?_⟩,hu.trans ((Below.keptC hb).mono hBl),by have:=hb.size;omega,hb⟩
  ·rw [hW1,ZP _ _ _ (by simp),ZA _ _ _ _ rfl];rfl
  ·rw [hW1,ZA _ _ _ _ (by simp)];rfl
  ·rw [hW1,ZP _ _ _ (by simp),ZA _ _ _ _ rfl];rfl
  ·rw [hW1,ZA _ _ _ _ (by simp)];rfl
 have r1:=hrd W1 (ZF _ _);have K0:=eqF175 joins B u W1 _ _ r1.2.1 r1.2.2.1 ⟨a0,p0,rfl,l0,h0⟩ ⟨b0',q0,rfl,l0,g0⟩ (fun k h w c1 c2 h1 h2 h3 h4=> eq176 joins[k] B u w c1 c2 h1 h2 h3 h4);have K1:=fun W h1' h2'=> eqF148 defs B u W _ _ h1' h2' ⟨a1,p1,rfl,l1,h1⟩ ⟨b1',q1,rfl,l1,g1⟩ (fun k h w c1 c2 h1 h2 h3 h4=> ihC defs[k] (hkd k h) B u w c1 c2 h1 h2 h3 h4);have K2:=fun W h1' h2'=> eqF150 kids B u W _ _ h1' h2' ⟨a2,p2,rfl,l2,h2⟩ ⟨b2',q2,rfl,l2,g2⟩ (fun k h w c1 c2 h1 h2 h3 h4=> ihT kids[k] (hkk k h) B u w c1 c2 h1 h2 h3 h4);have HW:=ZH hW1;have HRD:=ZH hrd;have HK1:=ZH K1;have HK2:=ZH K2;clear hW1 b1 hs h0 h1 h2 g0 g1 g2 hkd hkk ihT ihC hrd K1 K2 r1 z1;go_enter Tryz.func149,Tryz.ntmps149;go_wp2_with fail;rw [<-HW.out];refine K0.mono ?_;clear K0;rintro e w2 ⟨rfl,hb2⟩;obtain ⟨⟨x0,x1,x2,x3⟩,y0,y1,_⟩:=HRD.out w2 hb2;have K1:=HK1.out w2 y0 y1;clear HK1;go_wp2_with fail;refine K1.mono ?_;clear K1;rintro e w3 ⟨rfl,hb3'⟩;have hb3:=hb2.trans (hb3'.mono hb2.size);clear x0 x1 x2 x3 y0 y1 hb3' hb2;obtain ⟨⟨x0,x1,x2,x3⟩,y0,y1,_⟩:=HRD.out w3 hb3;have K2:=HK2.out w3 y0 y1;clear HK2;go_wp2_with fail;refine K2.mono ?_;clear K2;rintro e w4 ⟨rfl,hb4'⟩;have hb4:=hb3.trans (hb4'.mono hb3.size);clear hb4' hb3 x0 x1 x2 x3 y0 y1;go_wp2;go_ret;exact ⟨rfl,(HRD.out w4 hb4).2.2.2⟩
theorem eq_all:∀s,EqTAt s/\EqCAt s:=by
 intro s
 induction s with
 | zero=> exact ⟨fun t ht=> by have:=yD (.proc t);omega,fun t ht=> by have:=yD (.def_ t);omega⟩
 | succ s ih=>
  constructor
  ·intro t ht B u w c1 c2 hu hB h1 h2
   obtain ⟨op,text,args,defs,kids⟩:=t;exact eqT_one s ih.1 ih.2 op text args defs kids ht B u w c1 c2 hu hB h1 h2
  ·intro t ht B u w c1 c2 hu hB h1 h2
   obtain ⟨form,text,joins,defs,kids⟩:=t;exact eqC_one s ih.1 ih.2 form text joins defs kids ht B u w c1 c2 hu hB h1 h2
theorem eq_any (t:Term) (B:Nat) (u w:World) (c1 c2:List Value) (hu:zh B u w) (hB:B<=w.heap.size) (h1:ze B u c1 t) (h2:ze B u c2 t):
  Calls Tryz.prog 93 #[.agg c1.toArray, .agg c2.toArray] w fun e w'=> e= .returned (.bool true)/\Below w.heap.size w w':=(eq_all _).1 t (ZL _) B u w c1 c2 hu hB h1 h2
end
section
open Go.RowKit Go.Shelf Go.Maps
def mid (u:World) (N A:Nat) (w:World):World:={ w with heap:=w.heap.mapIdx fun i o=> if i < N then (match u.heap[i]? with | some x=> x | none=> .map #[] 0) else if i < A then .map #[] 0 else o }
theorem yM (u:World) (N A:Nat) (w:World) (b o:Nat) (v:Value):(mid u N A w).cell? ⟨b,o,none⟩=some v↔b < w.heap.size/\((b < N/\u.cell? ⟨b,o,none⟩=some v)∨(N<=b/\A<=b/\w.cell? ⟨b,o,none⟩=some v)):=by
 unfold mid World.cell?;simp only [Array.getElem?_mapIdx];cases h:w.heap[b]? with
 | none=>
  have:¬b < w.heap.size:=fun hlt=> by rw [Array.getElem?_eq_getElem hlt] at h;cases h
  simp [this]
 | some x=>
  have hlt:b < w.heap.size:=(ZG h).1;by_cases hb:b < N
  ·cases hu:u.heap[b]? with
   | none=> simp [hb,hlt,Nat.not_le.2 hb]
   | some y=> simp [hb,hlt,Nat.not_le.2 hb]
  ·by_cases hA:b < A
   ·simp [hb,hA,hlt,Nat.not_le.2 hA]
   ·simp [hb,hA,hlt,Nat.not_lt.1 hA,Nat.not_lt.1 hb]
theorem zbD {u:World} {N A A' B:Nat} {w w':World} (hA:A'<=A) (hs:w.heap.size<=w'.heap.size) (h:∀b o v,A<=b->b < B->w.cell? ⟨b,o,none⟩=some v->w'.cell? ⟨b,o,none⟩=some v):zh B (mid u N A w) (mid u N A' w'):=by
 intro b o v hb hv;obtain ⟨h1,h2⟩:=(yM u N A w b o v).1 hv;refine (yM u N A' w' b o v).2 ⟨by omega,?_⟩;rcases h2 with h2 | ⟨h2,h3,h4⟩
 ·exact .inl h2
 ·exact .inr ⟨h2,by omega,h b o v h3 hb h4⟩
theorem zdn {u:World} {N:Nat} {w:World} (hu:zh N u w) (A B:Nat):zh B (mid u N A w) w:=by
 intro b o v hb hv;obtain ⟨h1,h2⟩:=(yM u N A w b o v).1 hv;rcases h2 with ⟨h2,h3⟩ | ⟨h2,h3,h4⟩
 ·exact hu b o v h2 h3
 ·exact h4
def je {X:Type} (At:Nat->World->List Value->X->Prop) (u:World) (N lo:Nat) (row:Option Nat) (w:World) (cs:List Value) (x:X):Prop:=
 ∃A B,lo<=A/\B<=w.heap.size/\(∀g,row=some g->g < A∨B<=g)/\At B (mid u N A w) cs x
theorem je.keep {X:Type} {At:Nat->World->List Value->X->Prop} (hAt:zad At) {u:World} {N lo:Nat} {row row':Option Nat} {w w':World} {cs:List Value} {x:X} (h:je At u N lo row w cs x)
  (hk:∀b,lo<=b->b < w.heap.size->row≠some b->w'.heap[b]?=w.heap[b]?) (hs:w.heap.size<=w'.heap.size) (hr:row'=row∨∃g,row'=some g/\w.heap.size<=g):je At u N lo row' w' cs x:=by
 obtain ⟨A,B,h1,h2,h3,h4⟩:=h;refine ⟨A,B,h1,by omega,fun g hg=> ?_,hAt _ _ _ _ _ _ (zbD (ZL _) hs fun b o v ha hb hv=> ?_) (ZL _) h4⟩
 ·rcases hr with rfl | ⟨g',hg',hle⟩
  ·exact h3 g hg
  ·rw [hg] at hg';have:=ZJ hg';omega
 ·refine (ZB (w:=w) (hk b (by omega) (by omega) (fun e=> ?_))).trans hv
  rcases h3 b e with h | h <;> omega
theorem je.out {X:Type} {At:Nat->World->List Value->X->Prop} (hAt:zad At) {u:World} {N lo:Nat} {row:Option Nat} {w:World} {cs:List Value} {x:X} (h:je At u N lo row w cs x):At w.heap.size (mid u N lo w) cs x:=by
 obtain ⟨A,B,h1,h2,h3,h4⟩:=h;exact hAt _ _ _ _ _ _ (zbD h1 (ZL _) fun b o v _ _ hv=> hv) h2 h4
theorem zbH {u:World} {N A:Nat} {w:World} {b off:Nat} {cs:List Value} (h:zI w b off cs) (hb:A<=b) (hN:N<=b):zI (mid u N A w) b off cs:=by
 intro j hj;exact (yM u N A w b (off + j) _).2 ⟨zD (h j hj), .inr ⟨hN,hb,h j hj⟩⟩
theorem zcQ {X:Type} {At:Nat->World->List Value->X->Prop} {u:World} {N n A ty:Nat} (hN:N<=A) {w:World} {vs:List Value} {l:List X} {v:Value} {row:Option Nat} (hAt:zad At) (hn:0 < n) (h:w.ownsRow A ty n v l.length vs)
  (hc:zq (fun _ w cs x=> je At u N A row w cs x) n 0 w vs l)
  {P:Nat->Nat->Prop} (hP:∀b off,(∀i,(h:i < l.length)->∃cs,zI (mid u N A w) b (off + i * n) cs/\At w.heap.size (mid u N A w) cs l[i])->P b off):SlAt w.heap.size v l.length P:=by
 obtain ⟨a,cap,rfl,hk,h⟩:=zJ hn h;refine ⟨a,cap,rfl,hk,?_⟩;rcases h with h | ⟨g,rfl,hg,hA,hcell⟩
 ·exact .inl h
 ·refine .inr ⟨g,0,rfl,hg,hP g 0 fun i hi=> ⟨_,zbH (zag i n hcell ?_) hA (by omega),(hc.2 i hi).out hAt⟩⟩
  rw [hc.1,<-Nat.succ_mul];exact Nat.mul_le_mul_right n hi
theorem zi6 {u:World} {N A:Nat} (hN:N<=A) {w:World} {vs:List Value} {l:List zg} {v:Value} {row:Option Nat} (h:w.ownsRow A 130 5 v l.length vs) (hc:zq (fun _ w cs x=> je zo u N A row w cs x) 5 0 w vs l):
  SlAt w.heap.size v l.length (fun b off=> zr w.heap.size (mid u N A w) b off l):=
 zcQ hN jB (by omega) h hc fun b off h=> zr.mk l b off h
theorem zle {u:World} {N A:Nat} (hN:N<=A) {w:World} {vs:List Value} {l:List Term} {v:Value} {row:Option Nat} (h:w.ownsRow A 33 5 v l.length vs) (hc:zq (fun _ w cs x=> je ze u N A row w cs x) 5 0 w vs l):
  SlAt w.heap.size v l.length (fun b off=> zu w.heap.size (mid u N A w) b off l):=
 zcQ hN jo (by omega) h hc fun b off h=> zu.mk l b off h
end
end Go.Proofs.YtjmlaeofjjhfmaaGreat
