/- Lemmas. -/
import Derived.Test.YtjmlaeofjjhfmaaGreatS43
import Derived.Test.YtjmlaeofjjhfmaaGreatS44
import Derived.Deep.RegionHeld3
set_option linter.unusedVariables false
set_option linter.unusedSimpArgs false
set_option maxRecDepth 10000
set_option maxHeartbeats 16000000
namespace Go.Proofs.YtjmlaeofjjhfmaaGreat
open Go.RowKit Go.Shelf Go.Maps
def Q5 (W:World) (n:Nat) (p0:Int) (p1:ByteArray) (p2:Option Addr) (p3 p4:Nat) (p5:Option Addr) (p6 p7:Nat) (p8:Option Addr) (p9 pA:Nat):Prop:=
 W.cell? ⟨n,0,none⟩=some (.int .i64 p0)/\W.cell? ⟨n,1,none⟩=some (.string p1)/\W.cell? ⟨n,2,none⟩=some (.slice p2 p3 p4)/\W.cell? ⟨n,3,none⟩=some (.slice p5 p6 p7)/\W.cell? ⟨n,4,none⟩=some (.slice p8 p9 pA)
theorem Q5.later {W W':World} {n:Nat} {p0:Int} {p1:ByteArray} {p2:Option Addr} {p3 p4:Nat} {p5:Option Addr} {p6 p7:Nat} {p8:Option Addr} {p9 pA:Nat} (h:Q5 W n p0 p1 p2 p3 p4 p5 p6 p7 p8 p9 pA) (hb:Below W.heap.size W W'):Q5 W' n p0 p1 p2 p3 p4 p5 p6 p7 p8 p9 pA:=by
 obtain ⟨h0,h1,h2,h3,h4⟩:=h;have q:∀o,W'.cell? ⟨n,o,none⟩=W.cell? ⟨n,o,none⟩:=fun o=> hb.cell (p:=⟨n,o,none⟩) (zD h0);exact ⟨(q 0).trans h0,(q 1).trans h1,(q 2).trans h2,(q 3).trans h3,(q 4).trans h4⟩
theorem Q5.new (w:World) (p0:Int) (p1:ByteArray) (p2:Option Addr) (p3 p4:Nat) (p5:Option Addr) (p6 p7:Nat) (p8:Option Addr) (p9 pA:Nat):Q5 (w.alloc (.cells #[.int .i64 p0, .string p1, .slice p2 p3 p4, .slice p5 p6 p7, .slice p8 p9 pA] 33)) w.heap.size p0 p1 p2 p3 p4 p5 p6 p7 p8 p9 pA:=by
 unfold Q5;simp only [ZA _ _ _ _ rfl];exact ⟨rfl,rfl,rfl,rfl,rfl⟩
def Q10 (W:World) (n:Nat) (X Y:ByteArray) (e0 e1:Int) (e2:ByteArray) (e3:Option Addr) (e4 e5:Nat) (f0 f1:Int) (f2:ByteArray) (f3:Option Addr) (f4 f5:Nat):Prop:=
 W.cell? ⟨n,0,none⟩=some (.string X)/\W.cell? ⟨n,1,none⟩=some (.string Y)/\W.cell? ⟨n,2,none⟩=some (.int .i64 e0)/\W.cell? ⟨n,3,none⟩=some (.int .i64 e1)/\W.cell? ⟨n,4,none⟩=some (.string e2)/\W.cell? ⟨n,5,none⟩=some (.slice e3 e4 e5)/\
  W.cell? ⟨n,6,none⟩=some (.int .i64 f0)/\W.cell? ⟨n,7,none⟩=some (.int .i64 f1)/\W.cell? ⟨n,8,none⟩=some (.string f2)/\W.cell? ⟨n,9,none⟩=some (.slice f3 f4 f5)
theorem Q10.later {W W':World} {n:Nat} {X Y:ByteArray} {e0 e1:Int} {e2:ByteArray} {e3:Option Addr} {e4 e5:Nat} {f0 f1:Int} {f2:ByteArray} {f3:Option Addr} {f4 f5:Nat} (h:Q10 W n X Y e0 e1 e2 e3 e4 e5 f0 f1 f2 f3 f4 f5) (hb:Below W.heap.size W W'):Q10 W' n X Y e0 e1 e2 e3 e4 e5 f0 f1 f2 f3 f4 f5:=by
 obtain ⟨h0,h1,h2,h3,h4,h5,h6,h7,h8,h9⟩:=h;have q:∀o,W'.cell? ⟨n,o,none⟩=W.cell? ⟨n,o,none⟩:=fun o=> hb.cell (p:=⟨n,o,none⟩) (zD h0);exact ⟨(q 0).trans h0,(q 1).trans h1,(q 2).trans h2,(q 3).trans h3,(q 4).trans h4,(q 5).trans h5,(q 6).trans h6,(q 7).trans h7,(q 8).trans h8,(q 9).trans h9⟩
theorem Q10.new (w:World) (X Y:ByteArray) (e0 e1:Int) (e2:ByteArray) (e3:Option Addr) (e4 e5:Nat) (f0 f1:Int) (f2:ByteArray) (f3:Option Addr) (f4 f5:Nat):Q10 (w.alloc (.cells #[.string X, .string Y, .int .i64 e0, .int .i64 e1, .string e2, .slice e3 e4 e5, .int .i64 f0, .int .i64 f1, .string f2, .slice f3 f4 f5] 56)) w.heap.size X Y e0 e1 e2 e3 e4 e5 f0 f1 f2 f3 f4 f5:=by
 unfold Q10;simp only [ZA _ _ _ _ rfl];exact ⟨rfl,rfl,rfl,rfl,rfl,rfl,rfl,rfl,rfl,rfl⟩
theorem term_later {W W':World} {cs:List Value} {T:Term} (h:ze W.heap.size W cs T) (hb:Below W.heap.size W W'):ze W'.heap.size W' cs T:=ze.keep (Below.keptC hb) hb.size _ _ h
def Kw (w W:World):Prop:=zh w.heap.size w W/\w.heap.size<=W.heap.size/\Below w.heap.size w W
theorem Kw.refl (w:World):Kw w w:=⟨zh.refl _ _,ZL _,ZF _ _⟩
theorem Kw.later {w W W':World} (h:Kw w W) (hb:Below W.heap.size W W'):Kw w W':=⟨h.1.trans ((Below.keptC hb).mono h.2.1),by have:=hb.size;have:=h.2.1;omega,h.2.2.trans (hb.mono h.2.1)⟩
theorem alloc_below (w:World) (o:Obj):Below w.heap.size w (w.alloc o):=ZQ w _
abbrev zq33:Obj:= .cells #[.int .i64 0, .string ⟨#[]⟩, .slice none 0 0, .slice none 0 0, .slice none 0 0] 33
def SkB (W0:World) (k:Option Nat) (W:World):Prop:=Below W0.heap.size W0 W/\∀j,k=some j->W0.heap.size<=j/\qr W j
theorem SkB.mono {W0 W W':World} {k:Option Nat} (h:SkB W0 k W) (hb:Below W.heap.size W W'):SkB W0 k W':=by
 obtain ⟨h1,h2⟩:=h;exact ⟨h1.trans (hb.mono h1.size),fun j hj=> ⟨(h2 j hj).1,(hb.block j (qS (h2 j hj).2)).trans (h2 j hj).2⟩⟩
theorem SkB.alloc {W0 W:World} {k:Option Nat} (h:SkB W0 k W):SkB W0 (some W.heap.size) (W.alloc zq33):=
 ⟨h.1.alloc h.1.size _,fun j hj=> by
  obtain rfl:=ZJ hj;exact ⟨h.1.size,ZN W _⟩⟩
def Dv (k:Option Nat) (W:World) (cs:List Value) (x:Term):Prop:=
 ∃U:World,(∀b o v,U.cell? ⟨b,o,none⟩=some v->k≠some b/\W.cell? ⟨b,o,none⟩=some v)/\ze W.heap.size U cs x
theorem Dv.at_ {W W':World} {cs:List Value} {x:Term} {k:Option Nat} (h:Dv k W cs x) (hs:W.heap.size<=W'.heap.size) (hk:∀b,k≠some b->b < W.heap.size->W'.heap[b]?=W.heap[b]?):ze W'.heap.size W' cs x:=by
 obtain ⟨U,h1,h2⟩:=h;refine ze.keep (fun b o v _ hv=> ?_) hs _ _ h2;obtain ⟨a2,a3⟩:=h1 b o v hv;exact (ZB (w:=W) (hk b a2 (zD a3))).trans a3
def FinB (W0:World) (t:Term) (xs:List Value) (k:Nat) (W:World):Prop:=Below W0.heap.size W0 W/\W.heap[k]?=some (.cells xs.toArray 33)/\ze W.heap.size W xs t
theorem finB_new {W0 W:World} {t:Term} {xs:List Value} {k:Option Nat} (h:SkB W0 k W) (ha:Dv k W xs t):FinB W0 t xs W.heap.size (W.alloc (.cells xs.toArray 33)):=
 ⟨h.1.alloc h.1.size _,ZN W _,ha.at_ (by simp) (fun b _ hb=> ZO _ _ _ hb)⟩
theorem finB_old {W0 W:World} {t:Term} {j:Nat} {v0 v1 v2 v3 v4:Value} (h:SkB W0 (some j) W) (ha:Dv (some j) W [v0,v1,v2,v3,v4] t):
  FinB W0 t [v0,v1,v2,v3,v4] j (((((W.setCell ⟨j,0,none⟩ v0).setCell ⟨j,1,none⟩ v1).setCell ⟨j,2,none⟩ v2).setCell ⟨j,3,none⟩ v3).setCell ⟨j,4,none⟩ v4):=by
 obtain ⟨h1,h2⟩:=h;obtain ⟨h3,h4⟩:=h2 j rfl;refine ⟨set5 h1 j h3 _ _ _ _ _,zd9 h4 _ _ _ _ _,ha.at_ (by simp [World.setCell]) (fun b hb _=> ?_)⟩;have e2:b≠j:=fun e=> hb (by rw [e]);rw [ZC _ _ _ _ (by simpa using e2),ZC _ _ _ _ (by simpa using e2),ZC _ _ _ _ (by simpa using e2),ZC _ _ _ _ (by simpa using e2),ZC _ _ _ _ (by simpa using e2)]
theorem row8_any (cs es fs:List Value) (t:Term) (X Y:ByteArray) (E F:Exp) (w:World) (hXz:X.size<=maxLen) (hYz:Y.size<=maxLen) (ht:ze w.heap.size w cs t) (hE:zy w.heap.size w es E) (hF:zy w.heap.size w fs F):
  Calls Tryz.prog 8 #[.agg cs.toArray, .agg (.string X:: .string Y::(es ++ fs)).toArray] w fun e w'=> e= .returned (.bool true)/\Below w.heap.size w w':=by
 have J14:∀W,Calls Tryz.prog 14 #[] W fun e w'=> e= .returned (.bool true)/\Below W.heap.size W w':=zkx;obtain ⟨o0,o1,o2,o3,o4,o5,o6,o7,o8,o9,oA,rfl⟩:=zz ht;obtain ⟨e0,e1,e2,e3,e4,e5,rfl⟩:=qG hE;obtain ⟨f0,f1,f2,f3,f4,f5,rfl⟩:=qG hF;show Calls Tryz.prog 8 #[.agg #[.int .i64 o0, .string o1, .slice o2 o3 o4, .slice o5 o6 o7, .slice o8 o9 oA], .agg #[.string X, .string Y, .int .i64 e0, .int .i64 e1, .string e2, .slice e3 e4 e5, .int .i64 f0, .int .i64 f1, .string f2, .slice f3 f4 f5]] w fun e w'=> e= .returned (.bool true)/\Below w.heap.size w w';obtain ⟨W0,hW0⟩:∃W0,W0=w.alloc (.cells #[.int .i64 o0, .string o1, .slice o2 o3 o4, .slice o5 o6 o7, .slice o8 o9 oA] 33):=⟨_,rfl⟩;obtain ⟨W1,hW1⟩:∃W1,W1=W0.alloc (.cells #[.string X, .string Y, .int .i64 e0, .int .i64 e1, .string e2, .slice e3 e4 e5, .int .i64 f0, .int .i64 f1, .string f2, .slice f3 f4 f5] 56):=⟨_,rfl⟩;have z0:W0.heap.size=w.heap.size + 1:=by rw [hW0];simp
 have kw0:Kw w W0:=by rw [hW0];exact (Kw.refl w).later (alloc_below _ _)
 have b01:Below W0.heap.size W0 W1:=by rw [hW1];exact alloc_below _ _
 have kw1:=kw0.later b01;have ct1:Q5 W1 w.heap.size o0 o1 o2 o3 o4 o5 o6 o7 o8 o9 oA:=Q5.later (by rw [hW0];exact Q5.new ..) b01;have cp1:Q10 W1 (w.heap.size + 1) X Y e0 e1 e2 e3 e4 e5 f0 f1 f2 f3 f4 f5:=by rw [hW1,<-z0];exact Q10.new ..
 have hW1':W1=(w.alloc (.cells #[.int .i64 o0, .string o1, .slice o2 o3 o4, .slice o5 o6 o7, .slice o8 o9 oA] 33)).alloc (.cells #[.string X, .string Y, .int .i64 e0, .int .i64 e1, .string e2, .slice e3 e4 e5, .int .i64 f0, .int .i64 f1, .string f2, .slice f3 f4 f5] 56):=by rw [hW1,hW0]
 have HW1:=ZH hW1';have HCP:Hid (∀W,Below W1.heap.size W1 W->Q10 W (w.heap.size + 1) X Y e0 e1 e2 e3 e4 e5 f0 f1 f2 f3 f4 f5):=ZH fun W hW=> cp1.later hW;have HCT:Hid (∀W,Below W1.heap.size W1 W->Q5 W w.heap.size o0 o1 o2 o3 o4 o5 o6 o7 o8 o9 oA):=ZH fun W hW=> ct1.later hW;have HKW:Hid (∀W,Below W1.heap.size W1 W->Kw w W):=ZH fun W hW=> kw1.later hW;have HJ14:=ZH J14;have HBD:Hid (Below W1.heap.size W1 W1.drew):=ZH (ZF _ _).drew
 have H20E':∀W,Below W1.heap.size W1 W->Calls Tryz.prog 20 #[.agg #[.int .i64 e0, .int .i64 e1, .string e2, .slice e3 e4 e5]] W fun e w'=> e= .returned (.int .i64 (jG (zL (.exp E))))/\Hid (Below W1.heap.size W1 w'):=fun W hW=> by
  have k:=HKW.out W hW;exact (rcheckExp_any E w.heap.size w W _ k.1 k.2.1 hE).mono fun e w' ⟨h1,h2⟩=> ⟨h1,ZH (hW.trans (h2.mono hW.size))⟩
 have H20F':∀W,Below W1.heap.size W1 W->Calls Tryz.prog 20 #[.agg #[.int .i64 f0, .int .i64 f1, .string f2, .slice f3 f4 f5]] W fun e w'=> e= .returned (.int .i64 (jG (zL (.exp F))))/\Hid (Below W1.heap.size W1 w'):=fun W hW=> by
  have k:=HKW.out W hW;exact (rcheckExp_any F w.heap.size w W _ k.1 k.2.1 hF).mono fun e w' ⟨h1,h2⟩=> ⟨h1,ZH (hW.trans (h2.mono hW.size))⟩
 have HT:=ZH ht;have HE:=ZH hE;have HFA:=ZH hF;clear hW0 hW1 hW1' z0 kw0 b01 kw1 ct1 cp1 J14 ht hE hF;have g30:∀s:ByteArray,30 < s.size->(30:Int) < (s.size:Int):=fun s h=> by omega
 have l30:∀s:ByteArray,¬30 < s.size->¬(30:Int) < (s.size:Int):=fun s h=> by omega
 by_cases h1:30 < X.size
 ·have h1:=g30 X h1
  go_enter Tryz.func8,Tryz.ntmps8;go_upto_region 1 with fail;rw [<-HW1.out];refine jg (fun W=> Q10 W (w.heap.size + 1) X Y e0 e1 e2 e3 e4 e5 f0 f1 f2 f3 f4 f5) 99 (by kernel_rfl) ?_;refine Sunk.takeN 0 (some 12) (.pointer (some ⟨w.heap.size + 1,0,none⟩)) rfl rfl (by kernel_rfl) (by kernel_rfl) (by kernel_rfl) (by kernel_rfl) (fun _ _ _ h=> h) (HCP.out _ HBD.out) (by rfl) (by rintro W ⟨q0,q1,q2,q3,q4,q5,q6,q7,q8,q9⟩;go_simp) ?_
  (try simp only [ZS])
  refine Sunk.takeN 1 (some 13) (.string X) rfl rfl (by kernel_rfl) (by kernel_rfl) (by kernel_rfl) (by kernel_rfl) (fun _ _ _ h=> h) (HCP.out _ HBD.out) (by rfl) (by rintro W ⟨q0,q1,q2,q3,q4,q5,q6,q7,q8,q9⟩;go_simp) ?_
  (try simp only [ZS])
  refine Sunk.takeN 2 (some 14) (.int .i64 X.size) rfl rfl (by kernel_rfl) (by kernel_rfl) (by kernel_rfl) (by kernel_rfl) (fun _ _ _ h=> h) (HCP.out _ HBD.out) (by rfl) (by rintro W ⟨q0,q1,q2,q3,q4,q5,q6,q7,q8,q9⟩;go_simp) ?_
  (try simp only [ZS])
  refine Sunk.takeN 3 (some 15) (.bool true) rfl rfl (by kernel_rfl) (by kernel_rfl) (by kernel_rfl) (by kernel_rfl) (fun _ _ _ h=> h) (HCP.out _ HBD.out) (by rfl) (by rintro W ⟨q0,q1,q2,q3,q4,q5,q6,q7,q8,q9⟩;go_simp) ?_
  (try simp only [ZS])
  refine Sunk.takeN 4 (some 16) (.bool true) rfl rfl (by kernel_rfl) (by kernel_rfl) (by kernel_rfl) (by kernel_rfl) (fun _ _ _ h=> h) (HCP.out _ HBD.out) (by rfl) (by rintro W ⟨q0,q1,q2,q3,q4,q5,q6,q7,q8,q9⟩;go_simp) ?_
  (try simp only [ZS])
  refine Sunk.skipN 5 (some 17) rfl rfl (by kernel_rfl) (by kernel_rfl) (by kernel_rfl) (by kernel_rfl) (fun _ _ _ h=> h) (HCP.out _ HBD.out) (by rfl) ?_
  (try simp only [ZS])
  refine Sunk.skipN 6 (some 18) rfl rfl (by kernel_rfl) (by kernel_rfl) (by kernel_rfl) (by kernel_rfl) (fun _ _ _ h=> h) (HCP.out _ HBD.out) (by rfl) ?_
  (try simp only [ZS])
  refine Sunk.skipN 7 (some 19) rfl rfl (by kernel_rfl) (by kernel_rfl) (by kernel_rfl) (by kernel_rfl) (fun _ _ _ h=> h) (HCP.out _ HBD.out) (by rfl) ?_
  (try simp only [ZS])
  refine Sunk.skipN 8 (some 20) rfl rfl (by kernel_rfl) (by kernel_rfl) (by kernel_rfl) (by kernel_rfl) (fun _ _ _ h=> h) (HCP.out _ HBD.out) (by rfl) ?_
  (try simp only [ZS])
  refine Sunk.takeN 9 (some 21) (.bool true) rfl rfl (by kernel_rfl) (by kernel_rfl) (by kernel_rfl) (by kernel_rfl) (fun _ _ _ h=> h) (HCP.out _ HBD.out) (by rfl) (by rintro W ⟨q0,q1,q2,q3,q4,q5,q6,q7,q8,q9⟩;go_simp) ?_
  (try simp only [ZS])
  refine Sunk.takeN 10 (some 22) (.bool true) rfl rfl (by kernel_rfl) (by kernel_rfl) (by kernel_rfl) (by kernel_rfl) (fun _ _ _ h=> h) (HCP.out _ HBD.out) (by rfl) (by rintro W ⟨q0,q1,q2,q3,q4,q5,q6,q7,q8,q9⟩;go_simp) ?_
  (try simp only [ZS])
  refine Sunk.skipN 11 (some 23) rfl rfl (by kernel_rfl) (by kernel_rfl) (by kernel_rfl) (by kernel_rfl) (fun _ _ _ h=> h) (HCP.out _ HBD.out) (by rfl) ?_
  (try simp only [ZS])
  refine Sunk.skipN 12 (some 24) rfl rfl (by kernel_rfl) (by kernel_rfl) (by kernel_rfl) (by kernel_rfl) (fun _ _ _ h=> h) (HCP.out _ HBD.out) (by rfl) ?_
  (try simp only [ZS])
  refine Sunk.skipN 13 (some 25) rfl rfl (by kernel_rfl) (by kernel_rfl) (by kernel_rfl) (by kernel_rfl) (fun _ _ _ h=> h) (HCP.out _ HBD.out) (by rfl) ?_
  (try simp only [ZS])
  refine Sunk.skipN 14 (some 26) rfl rfl (by kernel_rfl) (by kernel_rfl) (by kernel_rfl) (by kernel_rfl) (fun _ _ _ h=> h) (HCP.out _ HBD.out) (by rfl) ?_
  (try simp only [ZS])
  refine Sunk.skipN 15 (some 27) rfl rfl (by kernel_rfl) (by kernel_rfl) (by kernel_rfl) (by kernel_rfl) (fun _ _ _ h=> h) (HCP.out _ HBD.out) (by rfl) ?_
  (try simp only [ZS])
  refine Sunk.takeN 16 (some 28) (.bool true) rfl rfl (by kernel_rfl) (by kernel_rfl) (by kernel_rfl) (by kernel_rfl) (fun _ _ _ h=> h) (HCP.out _ HBD.out) (by rfl) (by rintro W ⟨q0,q1,q2,q3,q4,q5,q6,q7,q8,q9⟩;go_simp) ?_
  (try simp only [ZS])
  refine Sunk.takeN 17 (some 29) (.bool true) rfl rfl (by kernel_rfl) (by kernel_rfl) (by kernel_rfl) (by kernel_rfl) (fun _ _ _ h=> h) (HCP.out _ HBD.out) (by rfl) (by rintro W ⟨q0,q1,q2,q3,q4,q5,q6,q7,q8,q9⟩;go_simp) ?_
  (try simp only [ZS])
  refine Sunk.skipN 18 (some 30) rfl rfl (by kernel_rfl) (by kernel_rfl) (by kernel_rfl) (by kernel_rfl) (fun _ _ _ h=> h) (HCP.out _ HBD.out) (by rfl) ?_
  (try simp only [ZS])
  refine Sunk.skipN 19 (some 31) rfl rfl (by kernel_rfl) (by kernel_rfl) (by kernel_rfl) (by kernel_rfl) (fun _ _ _ h=> h) (HCP.out _ HBD.out) (by rfl) ?_
  (try simp only [ZS])
  refine Sunk.skipN 20 (some 32) rfl rfl (by kernel_rfl) (by kernel_rfl) (by kernel_rfl) (by kernel_rfl) (fun _ _ _ h=> h) (HCP.out _ HBD.out) (by rfl) ?_
  (try simp only [ZS])
  refine Sunk.skipN 21 (some 33) rfl rfl (by kernel_rfl) (by kernel_rfl) (by kernel_rfl) (by kernel_rfl) (fun _ _ _ h=> h) (HCP.out _ HBD.out) (by rfl) ?_
  (try simp only [ZS])
  refine Sunk.takeN 22 (some 34) (.bool true) rfl rfl (by kernel_rfl) (by kernel_rfl) (by kernel_rfl) (by kernel_rfl) (fun _ _ _ h=> h) (HCP.out _ HBD.out) (by rfl) (by rintro W ⟨q0,q1,q2,q3,q4,q5,q6,q7,q8,q9⟩;go_simp) ?_
  (try simp only [ZS])
  refine Sunk.takeN 23 (some 35) (.bool true) rfl rfl (by kernel_rfl) (by kernel_rfl) (by kernel_rfl) (by kernel_rfl) (fun _ _ _ h=> h) (HCP.out _ HBD.out) (by rfl) (by rintro W ⟨q0,q1,q2,q3,q4,q5,q6,q7,q8,q9⟩;go_simp) ?_
  (try simp only [ZS])
  refine Sunk.skipN 24 (some 36) rfl rfl (by kernel_rfl) (by kernel_rfl) (by kernel_rfl) (by kernel_rfl) (fun _ _ _ h=> h) (HCP.out _ HBD.out) (by rfl) ?_
  (try simp only [ZS])
  refine Sunk.skipN 25 (some 37) rfl rfl (by kernel_rfl) (by kernel_rfl) (by kernel_rfl) (by kernel_rfl) (fun _ _ _ h=> h) (HCP.out _ HBD.out) (by rfl) ?_
  (try simp only [ZS])
  refine Sunk.skipN 26 (some 38) rfl rfl (by kernel_rfl) (by kernel_rfl) (by kernel_rfl) (by kernel_rfl) (fun _ _ _ h=> h) (HCP.out _ HBD.out) (by rfl) ?_
  (try simp only [ZS])
  refine Sunk.skipN 27 (some 39) rfl rfl (by kernel_rfl) (by kernel_rfl) (by kernel_rfl) (by kernel_rfl) (fun _ _ _ h=> h) (HCP.out _ HBD.out) (by rfl) ?_
  (try simp only [ZS])
  refine Sunk.takeN 28 (some 40) (.bool true) rfl rfl (by kernel_rfl) (by kernel_rfl) (by kernel_rfl) (by kernel_rfl) (fun _ _ _ h=> h) (HCP.out _ HBD.out) (by rfl) (by rintro W ⟨q0,q1,q2,q3,q4,q5,q6,q7,q8,q9⟩;go_simp) ?_
  (try simp only [ZS])
  refine Sunk.takeN 29 (some 41) (.bool true) rfl rfl (by kernel_rfl) (by kernel_rfl) (by kernel_rfl) (by kernel_rfl) (fun _ _ _ h=> h) (HCP.out _ HBD.out) (by rfl) (by rintro W ⟨q0,q1,q2,q3,q4,q5,q6,q7,q8,q9⟩;go_simp) ?_
  (try simp only [ZS])
  refine Sunk.skipN 30 (some 42) rfl rfl (by kernel_rfl) (by kernel_rfl) (by kernel_rfl) (by kernel_rfl) (fun _ _ _ h=> h) (HCP.out _ HBD.out) (by rfl) ?_
  (try simp only [ZS])
  refine Sunk.skipN 31 (some 43) rfl rfl (by kernel_rfl) (by kernel_rfl) (by kernel_rfl) (by kernel_rfl) (fun _ _ _ h=> h) (HCP.out _ HBD.out) (by rfl) ?_
  (try simp only [ZS])
  refine Sunk.skipN 32 (some 44) rfl rfl (by kernel_rfl) (by kernel_rfl) (by kernel_rfl) (by kernel_rfl) (fun _ _ _ h=> h) (HCP.out _ HBD.out) (by rfl) ?_
  (try simp only [ZS])
  refine Sunk.skipN 33 (some 45) rfl rfl (by kernel_rfl) (by kernel_rfl) (by kernel_rfl) (by kernel_rfl) (fun _ _ _ h=> h) (HCP.out _ HBD.out) (by rfl) ?_
  (try simp only [ZS])
  refine Sunk.skipN 34 (some 46) rfl rfl (by kernel_rfl) (by kernel_rfl) (by kernel_rfl) (by kernel_rfl) (fun _ _ _ h=> h) (HCP.out _ HBD.out) (by rfl) ?_
  (try simp only [ZS])
  refine Sunk.skipN 35 (some 47) rfl rfl (by kernel_rfl) (by kernel_rfl) (by kernel_rfl) (by kernel_rfl) (fun _ _ _ h=> h) (HCP.out _ HBD.out) (by rfl) ?_
  (try simp only [ZS])
  refine Sunk.one 36 (by kernel_rfl) rfl (by rfl) (fun K hK=> ?_);go_simp;refine hK.out _ _ (fun _=> HCP.out _ HBD.out) ?_;clear hK K
  (try simp only [ZS])
  refine Sunk.done (by kernel_rfl) ?_;go_wp2_with (go_at_call 14;refine (HJ14.out _).mono ?_;rintro e' wA ⟨rfl,kA⟩);go_ret;exact ⟨rfl,((HKW.out _ HBD.out).later kA).2.2⟩
 have h1:=l30 X h1;by_cases h2:30 < Y.size
 ·have h2:=g30 Y h2
  go_enter Tryz.func8,Tryz.ntmps8;go_upto_region 1 with fail;rw [<-HW1.out];refine jg (fun W=> Q10 W (w.heap.size + 1) X Y e0 e1 e2 e3 e4 e5 f0 f1 f2 f3 f4 f5) 99 (by kernel_rfl) ?_;refine Sunk.takeN 0 (some 12) (.pointer (some ⟨w.heap.size + 1,0,none⟩)) rfl rfl (by kernel_rfl) (by kernel_rfl) (by kernel_rfl) (by kernel_rfl) (fun _ _ _ h=> h) (HCP.out _ HBD.out) (by rfl) (by rintro W ⟨q0,q1,q2,q3,q4,q5,q6,q7,q8,q9⟩;go_simp) ?_
  (try simp only [ZS])
  refine Sunk.takeN 1 (some 13) (.string X) rfl rfl (by kernel_rfl) (by kernel_rfl) (by kernel_rfl) (by kernel_rfl) (fun _ _ _ h=> h) (HCP.out _ HBD.out) (by rfl) (by rintro W ⟨q0,q1,q2,q3,q4,q5,q6,q7,q8,q9⟩;go_simp) ?_
  (try simp only [ZS])
  refine Sunk.takeN 2 (some 14) (.int .i64 X.size) rfl rfl (by kernel_rfl) (by kernel_rfl) (by kernel_rfl) (by kernel_rfl) (fun _ _ _ h=> h) (HCP.out _ HBD.out) (by rfl) (by rintro W ⟨q0,q1,q2,q3,q4,q5,q6,q7,q8,q9⟩;go_simp) ?_
  (try simp only [ZS])
  refine Sunk.takeN 3 (some 15) (.bool false) rfl rfl (by kernel_rfl) (by kernel_rfl) (by kernel_rfl) (by kernel_rfl) (fun _ _ _ h=> h) (HCP.out _ HBD.out) (by rfl) (by rintro W ⟨q0,q1,q2,q3,q4,q5,q6,q7,q8,q9⟩;go_simp) ?_
  (try simp only [ZS])
  refine Sunk.takeN 4 (some 16) (.bool false) rfl rfl (by kernel_rfl) (by kernel_rfl) (by kernel_rfl) (by kernel_rfl) (fun _ _ _ h=> h) (HCP.out _ HBD.out) (by rfl) (by rintro W ⟨q0,q1,q2,q3,q4,q5,q6,q7,q8,q9⟩;go_simp) ?_
  (try simp only [ZS])
  refine Sunk.takeN 5 (some 17) (.pointer (some ⟨w.heap.size + 1,1,none⟩)) rfl rfl (by kernel_rfl) (by kernel_rfl) (by kernel_rfl) (by kernel_rfl) (fun _ _ _ h=> h) (HCP.out _ HBD.out) (by rfl) (by rintro W ⟨q0,q1,q2,q3,q4,q5,q6,q7,q8,q9⟩;go_simp) ?_
  (try simp only [ZS])
  refine Sunk.takeN 6 (some 18) (.string Y) rfl rfl (by kernel_rfl) (by kernel_rfl) (by kernel_rfl) (by kernel_rfl) (fun _ _ _ h=> h) (HCP.out _ HBD.out) (by rfl) (by rintro W ⟨q0,q1,q2,q3,q4,q5,q6,q7,q8,q9⟩;go_simp) ?_
  (try simp only [ZS])
  refine Sunk.takeN 7 (some 19) (.int .i64 Y.size) rfl rfl (by kernel_rfl) (by kernel_rfl) (by kernel_rfl) (by kernel_rfl) (fun _ _ _ h=> h) (HCP.out _ HBD.out) (by rfl) (by rintro W ⟨q0,q1,q2,q3,q4,q5,q6,q7,q8,q9⟩;go_simp) ?_
  (try simp only [ZS])
  refine Sunk.takeN 8 (some 20) (.bool true) rfl rfl (by kernel_rfl) (by kernel_rfl) (by kernel_rfl) (by kernel_rfl) (fun _ _ _ h=> h) (HCP.out _ HBD.out) (by rfl) (by rintro W ⟨q0,q1,q2,q3,q4,q5,q6,q7,q8,q9⟩;go_simp) ?_
  (try simp only [ZS])
  refine Sunk.takeN 9 (some 21) (.bool true) rfl rfl (by kernel_rfl) (by kernel_rfl) (by kernel_rfl) (by kernel_rfl) (fun _ _ _ h=> h) (HCP.out _ HBD.out) (by rfl) (by rintro W ⟨q0,q1,q2,q3,q4,q5,q6,q7,q8,q9⟩;go_simp) ?_
  (try simp only [ZS])
  refine Sunk.takeN 10 (some 22) (.bool true) rfl rfl (by kernel_rfl) (by kernel_rfl) (by kernel_rfl) (by kernel_rfl) (fun _ _ _ h=> h) (HCP.out _ HBD.out) (by rfl) (by rintro W ⟨q0,q1,q2,q3,q4,q5,q6,q7,q8,q9⟩;go_simp) ?_
  (try simp only [ZS])
  refine Sunk.skipN 11 (some 23) rfl rfl (by kernel_rfl) (by kernel_rfl) (by kernel_rfl) (by kernel_rfl) (fun _ _ _ h=> h) (HCP.out _ HBD.out) (by rfl) ?_
  (try simp only [ZS])
  refine Sunk.skipN 12 (some 24) rfl rfl (by kernel_rfl) (by kernel_rfl) (by kernel_rfl) (by kernel_rfl) (fun _ _ _ h=> h) (HCP.out _ HBD.out) (by rfl) ?_
  (try simp only [ZS])
  refine Sunk.skipN 13 (some 25) rfl rfl (by kernel_rfl) (by kernel_rfl) (by kernel_rfl) (by kernel_rfl) (fun _ _ _ h=> h) (HCP.out _ HBD.out) (by rfl) ?_
  (try simp only [ZS])
  refine Sunk.skipN 14 (some 26) rfl rfl (by kernel_rfl) (by kernel_rfl) (by kernel_rfl) (by kernel_rfl) (fun _ _ _ h=> h) (HCP.out _ HBD.out) (by rfl) ?_
  (try simp only [ZS])
  refine Sunk.skipN 15 (some 27) rfl rfl (by kernel_rfl) (by kernel_rfl) (by kernel_rfl) (by kernel_rfl) (fun _ _ _ h=> h) (HCP.out _ HBD.out) (by rfl) ?_
  (try simp only [ZS])
  refine Sunk.takeN 16 (some 28) (.bool true) rfl rfl (by kernel_rfl) (by kernel_rfl) (by kernel_rfl) (by kernel_rfl) (fun _ _ _ h=> h) (HCP.out _ HBD.out) (by rfl) (by rintro W ⟨q0,q1,q2,q3,q4,q5,q6,q7,q8,q9⟩;go_simp) ?_
  (try simp only [ZS])
  refine Sunk.takeN 17 (some 29) (.bool true) rfl rfl (by kernel_rfl) (by kernel_rfl) (by kernel_rfl) (by kernel_rfl) (fun _ _ _ h=> h) (HCP.out _ HBD.out) (by rfl) (by rintro W ⟨q0,q1,q2,q3,q4,q5,q6,q7,q8,q9⟩;go_simp) ?_
  (try simp only [ZS])
  refine Sunk.skipN 18 (some 30) rfl rfl (by kernel_rfl) (by kernel_rfl) (by kernel_rfl) (by kernel_rfl) (fun _ _ _ h=> h) (HCP.out _ HBD.out) (by rfl) ?_
  (try simp only [ZS])
  refine Sunk.skipN 19 (some 31) rfl rfl (by kernel_rfl) (by kernel_rfl) (by kernel_rfl) (by kernel_rfl) (fun _ _ _ h=> h) (HCP.out _ HBD.out) (by rfl) ?_
  (try simp only [ZS])
  refine Sunk.skipN 20 (some 32) rfl rfl (by kernel_rfl) (by kernel_rfl) (by kernel_rfl) (by kernel_rfl) (fun _ _ _ h=> h) (HCP.out _ HBD.out) (by rfl) ?_
  (try simp only [ZS])
  refine Sunk.skipN 21 (some 33) rfl rfl (by kernel_rfl) (by kernel_rfl) (by kernel_rfl) (by kernel_rfl) (fun _ _ _ h=> h) (HCP.out _ HBD.out) (by rfl) ?_
  (try simp only [ZS])
  refine Sunk.takeN 22 (some 34) (.bool true) rfl rfl (by kernel_rfl) (by kernel_rfl) (by kernel_rfl) (by kernel_rfl) (fun _ _ _ h=> h) (HCP.out _ HBD.out) (by rfl) (by rintro W ⟨q0,q1,q2,q3,q4,q5,q6,q7,q8,q9⟩;go_simp) ?_
  (try simp only [ZS])
  refine Sunk.takeN 23 (some 35) (.bool true) rfl rfl (by kernel_rfl) (by kernel_rfl) (by kernel_rfl) (by kernel_rfl) (fun _ _ _ h=> h) (HCP.out _ HBD.out) (by rfl) (by rintro W ⟨q0,q1,q2,q3,q4,q5,q6,q7,q8,q9⟩;go_simp) ?_
  (try simp only [ZS])
  refine Sunk.skipN 24 (some 36) rfl rfl (by kernel_rfl) (by kernel_rfl) (by kernel_rfl) (by kernel_rfl) (fun _ _ _ h=> h) (HCP.out _ HBD.out) (by rfl) ?_
  (try simp only [ZS])
  refine Sunk.skipN 25 (some 37) rfl rfl (by kernel_rfl) (by kernel_rfl) (by kernel_rfl) (by kernel_rfl) (fun _ _ _ h=> h) (HCP.out _ HBD.out) (by rfl) ?_
  (try simp only [ZS])
  refine Sunk.skipN 26 (some 38) rfl rfl (by kernel_rfl) (by kernel_rfl) (by kernel_rfl) (by kernel_rfl) (fun _ _ _ h=> h) (HCP.out _ HBD.out) (by rfl) ?_
  (try simp only [ZS])
  refine Sunk.skipN 27 (some 39) rfl rfl (by kernel_rfl) (by kernel_rfl) (by kernel_rfl) (by kernel_rfl) (fun _ _ _ h=> h) (HCP.out _ HBD.out) (by rfl) ?_
  (try simp only [ZS])
  refine Sunk.takeN 28 (some 40) (.bool true) rfl rfl (by kernel_rfl) (by kernel_rfl) (by kernel_rfl) (by kernel_rfl) (fun _ _ _ h=> h) (HCP.out _ HBD.out) (by rfl) (by rintro W ⟨q0,q1,q2,q3,q4,q5,q6,q7,q8,q9⟩;go_simp) ?_
  (try simp only [ZS])
  refine Sunk.takeN 29 (some 41) (.bool true) rfl rfl (by kernel_rfl) (by kernel_rfl) (by kernel_rfl) (by kernel_rfl) (fun _ _ _ h=> h) (HCP.out _ HBD.out) (by rfl) (by rintro W ⟨q0,q1,q2,q3,q4,q5,q6,q7,q8,q9⟩;go_simp) ?_
  (try simp only [ZS])
  refine Sunk.skipN 30 (some 42) rfl rfl (by kernel_rfl) (by kernel_rfl) (by kernel_rfl) (by kernel_rfl) (fun _ _ _ h=> h) (HCP.out _ HBD.out) (by rfl) ?_
  (try simp only [ZS])
  refine Sunk.skipN 31 (some 43) rfl rfl (by kernel_rfl) (by kernel_rfl) (by kernel_rfl) (by kernel_rfl) (fun _ _ _ h=> h) (HCP.out _ HBD.out) (by rfl) ?_
  (try simp only [ZS])
  refine Sunk.skipN 32 (some 44) rfl rfl (by kernel_rfl) (by kernel_rfl) (by kernel_rfl) (by kernel_rfl) (fun _ _ _ h=> h) (HCP.out _ HBD.out) (by rfl) ?_
  (try simp only [ZS])
  refine Sunk.skipN 33 (some 45) rfl rfl (by kernel_rfl) (by kernel_rfl) (by kernel_rfl) (by kernel_rfl) (fun _ _ _ h=> h) (HCP.out _ HBD.out) (by rfl) ?_
  (try simp only [ZS])
  refine Sunk.skipN 34 (some 46) rfl rfl (by kernel_rfl) (by kernel_rfl) (by kernel_rfl) (by kernel_rfl) (fun _ _ _ h=> h) (HCP.out _ HBD.out) (by rfl) ?_
  (try simp only [ZS])
  refine Sunk.skipN 35 (some 47) rfl rfl (by kernel_rfl) (by kernel_rfl) (by kernel_rfl) (by kernel_rfl) (fun _ _ _ h=> h) (HCP.out _ HBD.out) (by rfl) ?_
  (try simp only [ZS])
  refine Sunk.one 36 (by kernel_rfl) rfl (by rfl) (fun K hK=> ?_);go_simp;refine hK.out _ _ (fun _=> HCP.out _ HBD.out) ?_;clear hK K
  (try simp only [ZS])
  refine Sunk.done (by kernel_rfl) ?_;go_wp2_with (go_at_call 14;refine (HJ14.out _).mono ?_;rintro e' wA ⟨rfl,kA⟩);go_ret;exact ⟨rfl,((HKW.out _ HBD.out).later kA).2.2⟩
 have h2:=l30 Y h2;by_cases hXY:X=Y
 ·have hxy:(X.toList==Y.toList)=true:=(zey _ _).2 hXY
  have hxz:decide (X=Y)=true:=decide_eq_true hXY;clear hXY;go_enter Tryz.func8,Tryz.ntmps8;go_upto_region 1 with fail;rw [<-HW1.out];refine jg (fun W=> Q10 W (w.heap.size + 1) X Y e0 e1 e2 e3 e4 e5 f0 f1 f2 f3 f4 f5) 99 (by kernel_rfl) ?_;refine Sunk.takeN 0 (some 12) (.pointer (some ⟨w.heap.size + 1,0,none⟩)) rfl rfl (by kernel_rfl) (by kernel_rfl) (by kernel_rfl) (by kernel_rfl) (fun _ _ _ h=> h) (HCP.out _ HBD.out) (by rfl) (by rintro W ⟨q0,q1,q2,q3,q4,q5,q6,q7,q8,q9⟩;go_simp) ?_
  (try simp only [ZS])
  refine Sunk.takeN 1 (some 13) (.string X) rfl rfl (by kernel_rfl) (by kernel_rfl) (by kernel_rfl) (by kernel_rfl) (fun _ _ _ h=> h) (HCP.out _ HBD.out) (by rfl) (by rintro W ⟨q0,q1,q2,q3,q4,q5,q6,q7,q8,q9⟩;go_simp) ?_
  (try simp only [ZS])
  refine Sunk.takeN 2 (some 14) (.int .i64 X.size) rfl rfl (by kernel_rfl) (by kernel_rfl) (by kernel_rfl) (by kernel_rfl) (fun _ _ _ h=> h) (HCP.out _ HBD.out) (by rfl) (by rintro W ⟨q0,q1,q2,q3,q4,q5,q6,q7,q8,q9⟩;go_simp) ?_
  (try simp only [ZS])
  refine Sunk.takeN 3 (some 15) (.bool false) rfl rfl (by kernel_rfl) (by kernel_rfl) (by kernel_rfl) (by kernel_rfl) (fun _ _ _ h=> h) (HCP.out _ HBD.out) (by rfl) (by rintro W ⟨q0,q1,q2,q3,q4,q5,q6,q7,q8,q9⟩;go_simp) ?_
  (try simp only [ZS])
  refine Sunk.takeN 4 (some 16) (.bool false) rfl rfl (by kernel_rfl) (by kernel_rfl) (by kernel_rfl) (by kernel_rfl) (fun _ _ _ h=> h) (HCP.out _ HBD.out) (by rfl) (by rintro W ⟨q0,q1,q2,q3,q4,q5,q6,q7,q8,q9⟩;go_simp) ?_
  (try simp only [ZS])
  refine Sunk.takeN 5 (some 17) (.pointer (some ⟨w.heap.size + 1,1,none⟩)) rfl rfl (by kernel_rfl) (by kernel_rfl) (by kernel_rfl) (by kernel_rfl) (fun _ _ _ h=> h) (HCP.out _ HBD.out) (by rfl) (by rintro W ⟨q0,q1,q2,q3,q4,q5,q6,q7,q8,q9⟩;go_simp) ?_
  (try simp only [ZS])
  refine Sunk.takeN 6 (some 18) (.string Y) rfl rfl (by kernel_rfl) (by kernel_rfl) (by kernel_rfl) (by kernel_rfl) (fun _ _ _ h=> h) (HCP.out _ HBD.out) (by rfl) (by rintro W ⟨q0,q1,q2,q3,q4,q5,q6,q7,q8,q9⟩;go_simp) ?_
  (try simp only [ZS])
  refine Sunk.takeN 7 (some 19) (.int .i64 Y.size) rfl rfl (by kernel_rfl) (by kernel_rfl) (by kernel_rfl) (by kernel_rfl) (fun _ _ _ h=> h) (HCP.out _ HBD.out) (by rfl) (by rintro W ⟨q0,q1,q2,q3,q4,q5,q6,q7,q8,q9⟩;go_simp) ?_
  (try simp only [ZS])
  refine Sunk.takeN 8 (some 20) (.bool false) rfl rfl (by kernel_rfl) (by kernel_rfl) (by kernel_rfl) (by kernel_rfl) (fun _ _ _ h=> h) (HCP.out _ HBD.out) (by rfl) (by rintro W ⟨q0,q1,q2,q3,q4,q5,q6,q7,q8,q9⟩;go_simp) ?_
  (try simp only [ZS])
  refine Sunk.takeN 9 (some 21) (.bool false) rfl rfl (by kernel_rfl) (by kernel_rfl) (by kernel_rfl) (by kernel_rfl) (fun _ _ _ h=> h) (HCP.out _ HBD.out) (by rfl) (by rintro W ⟨q0,q1,q2,q3,q4,q5,q6,q7,q8,q9⟩;go_simp) ?_
  (try simp only [ZS])
  refine Sunk.takeN 10 (some 22) (.bool false) rfl rfl (by kernel_rfl) (by kernel_rfl) (by kernel_rfl) (by kernel_rfl) (fun _ _ _ h=> h) (HCP.out _ HBD.out) (by rfl) (by rintro W ⟨q0,q1,q2,q3,q4,q5,q6,q7,q8,q9⟩;go_simp) ?_
  (try simp only [ZS])
  refine Sunk.takeN 11 (some 23) (.pointer (some ⟨w.heap.size + 1,0,none⟩)) rfl rfl (by kernel_rfl) (by kernel_rfl) (by kernel_rfl) (by kernel_rfl) (fun _ _ _ h=> h) (HCP.out _ HBD.out) (by rfl) (by rintro W ⟨q0,q1,q2,q3,q4,q5,q6,q7,q8,q9⟩;go_simp) ?_
  (try simp only [ZS])
  refine Sunk.takeN 12 (some 24) (.string X) rfl rfl (by kernel_rfl) (by kernel_rfl) (by kernel_rfl) (by kernel_rfl) (fun _ _ _ h=> h) (HCP.out _ HBD.out) (by rfl) (by rintro W ⟨q0,q1,q2,q3,q4,q5,q6,q7,q8,q9⟩;go_simp) ?_
  (try simp only [ZS])
  refine Sunk.takeN 13 (some 25) (.pointer (some ⟨w.heap.size + 1,1,none⟩)) rfl rfl (by kernel_rfl) (by kernel_rfl) (by kernel_rfl) (by kernel_rfl) (fun _ _ _ h=> h) (HCP.out _ HBD.out) (by rfl) (by rintro W ⟨q0,q1,q2,q3,q4,q5,q6,q7,q8,q9⟩;go_simp) ?_
  (try simp only [ZS])
  refine Sunk.takeN 14 (some 26) (.string Y) rfl rfl (by kernel_rfl) (by kernel_rfl) (by kernel_rfl) (by kernel_rfl) (fun _ _ _ h=> h) (HCP.out _ HBD.out) (by rfl) (by rintro W ⟨q0,q1,q2,q3,q4,q5,q6,q7,q8,q9⟩;go_simp) ?_
  (try simp only [ZS])
  refine Sunk.takeN 15 (some 27) (.bool true) rfl rfl (by kernel_rfl) (by kernel_rfl) (by kernel_rfl) (by kernel_rfl) (fun _ _ _ h=> h) (HCP.out _ HBD.out) (by rfl) (by rintro W ⟨q0,q1,q2,q3,q4,q5,q6,q7,q8,q9⟩;go_simp) ?_
  (try simp only [ZS])
  refine Sunk.takeN 16 (some 28) (.bool true) rfl rfl (by kernel_rfl) (by kernel_rfl) (by kernel_rfl) (by kernel_rfl) (fun _ _ _ h=> h) (HCP.out _ HBD.out) (by rfl) (by rintro W ⟨q0,q1,q2,q3,q4,q5,q6,q7,q8,q9⟩;go_simp) ?_
  (try simp only [ZS])
  refine Sunk.takeN 17 (some 29) (.bool true) rfl rfl (by kernel_rfl) (by kernel_rfl) (by kernel_rfl) (by kernel_rfl) (fun _ _ _ h=> h) (HCP.out _ HBD.out) (by rfl) (by rintro W ⟨q0,q1,q2,q3,q4,q5,q6,q7,q8,q9⟩;go_simp) ?_
  (try simp only [ZS])
  refine Sunk.skipN 18 (some 30) rfl rfl (by kernel_rfl) (by kernel_rfl) (by kernel_rfl) (by kernel_rfl) (fun _ _ _ h=> h) (HCP.out _ HBD.out) (by rfl) ?_
  (try simp only [ZS])
  refine Sunk.skipN 19 (some 31) rfl rfl (by kernel_rfl) (by kernel_rfl) (by kernel_rfl) (by kernel_rfl) (fun _ _ _ h=> h) (HCP.out _ HBD.out) (by rfl) ?_
  (try simp only [ZS])
  refine Sunk.skipN 20 (some 32) rfl rfl (by kernel_rfl) (by kernel_rfl) (by kernel_rfl) (by kernel_rfl) (fun _ _ _ h=> h) (HCP.out _ HBD.out) (by rfl) ?_
  (try simp only [ZS])
  refine Sunk.skipN 21 (some 33) rfl rfl (by kernel_rfl) (by kernel_rfl) (by kernel_rfl) (by kernel_rfl) (fun _ _ _ h=> h) (HCP.out _ HBD.out) (by rfl) ?_
  (try simp only [ZS])
  refine Sunk.takeN 22 (some 34) (.bool true) rfl rfl (by kernel_rfl) (by kernel_rfl) (by kernel_rfl) (by kernel_rfl) (fun _ _ _ h=> h) (HCP.out _ HBD.out) (by rfl) (by rintro W ⟨q0,q1,q2,q3,q4,q5,q6,q7,q8,q9⟩;go_simp) ?_
  (try simp only [ZS])
  refine Sunk.takeN 23 (some 35) (.bool true) rfl rfl (by kernel_rfl) (by kernel_rfl) (by kernel_rfl) (by kernel_rfl) (fun _ _ _ h=> h) (HCP.out _ HBD.out) (by rfl) (by rintro W ⟨q0,q1,q2,q3,q4,q5,q6,q7,q8,q9⟩;go_simp) ?_
  (try simp only [ZS])
  refine Sunk.skipN 24 (some 36) rfl rfl (by kernel_rfl) (by kernel_rfl) (by kernel_rfl) (by kernel_rfl) (fun _ _ _ h=> h) (HCP.out _ HBD.out) (by rfl) ?_
  (try simp only [ZS])
  refine Sunk.skipN 25 (some 37) rfl rfl (by kernel_rfl) (by kernel_rfl) (by kernel_rfl) (by kernel_rfl) (fun _ _ _ h=> h) (HCP.out _ HBD.out) (by rfl) ?_
  (try simp only [ZS])
  refine Sunk.skipN 26 (some 38) rfl rfl (by kernel_rfl) (by kernel_rfl) (by kernel_rfl) (by kernel_rfl) (fun _ _ _ h=> h) (HCP.out _ HBD.out) (by rfl) ?_
  (try simp only [ZS])
  refine Sunk.skipN 27 (some 39) rfl rfl (by kernel_rfl) (by kernel_rfl) (by kernel_rfl) (by kernel_rfl) (fun _ _ _ h=> h) (HCP.out _ HBD.out) (by rfl) ?_
  (try simp only [ZS])
  refine Sunk.takeN 28 (some 40) (.bool true) rfl rfl (by kernel_rfl) (by kernel_rfl) (by kernel_rfl) (by kernel_rfl) (fun _ _ _ h=> h) (HCP.out _ HBD.out) (by rfl) (by rintro W ⟨q0,q1,q2,q3,q4,q5,q6,q7,q8,q9⟩;go_simp) ?_
  (try simp only [ZS])
  refine Sunk.takeN 29 (some 41) (.bool true) rfl rfl (by kernel_rfl) (by kernel_rfl) (by kernel_rfl) (by kernel_rfl) (fun _ _ _ h=> h) (HCP.out _ HBD.out) (by rfl) (by rintro W ⟨q0,q1,q2,q3,q4,q5,q6,q7,q8,q9⟩;go_simp) ?_
  (try simp only [ZS])
  refine Sunk.skipN 30 (some 42) rfl rfl (by kernel_rfl) (by kernel_rfl) (by kernel_rfl) (by kernel_rfl) (fun _ _ _ h=> h) (HCP.out _ HBD.out) (by rfl) ?_
  (try simp only [ZS])
  refine Sunk.skipN 31 (some 43) rfl rfl (by kernel_rfl) (by kernel_rfl) (by kernel_rfl) (by kernel_rfl) (fun _ _ _ h=> h) (HCP.out _ HBD.out) (by rfl) ?_
  (try simp only [ZS])
  refine Sunk.skipN 32 (some 44) rfl rfl (by kernel_rfl) (by kernel_rfl) (by kernel_rfl) (by kernel_rfl) (fun _ _ _ h=> h) (HCP.out _ HBD.out) (by rfl) ?_
  (try simp only [ZS])
  refine Sunk.skipN 33 (some 45) rfl rfl (by kernel_rfl) (by kernel_rfl) (by kernel_rfl) (by kernel_rfl) (fun _ _ _ h=> h) (HCP.out _ HBD.out) (by rfl) ?_
  (try simp only [ZS])
  refine Sunk.skipN 34 (some 46) rfl rfl (by kernel_rfl) (by kernel_rfl) (by kernel_rfl) (by kernel_rfl) (fun _ _ _ h=> h) (HCP.out _ HBD.out) (by rfl) ?_
  (try simp only [ZS])
  refine Sunk.skipN 35 (some 47) rfl rfl (by kernel_rfl) (by kernel_rfl) (by kernel_rfl) (by kernel_rfl) (fun _ _ _ h=> h) (HCP.out _ HBD.out) (by rfl) ?_
  (try simp only [ZS])
  refine Sunk.one 36 (by kernel_rfl) rfl (by rfl) (fun K hK=> ?_);go_simp;refine hK.out _ _ (fun _=> HCP.out _ HBD.out) ?_;clear hK K
  (try simp only [ZS])
  refine Sunk.done (by kernel_rfl) ?_;go_wp2_with (go_at_call 14;refine (HJ14.out _).mono ?_;rintro e' wA ⟨rfl,kA⟩);go_ret;exact ⟨rfl,((HKW.out _ HBD.out).later kA).2.2⟩
 have hxy:(X.toList==Y.toList)=false:=by rw [Bool.eq_false_iff];exact fun h=> hXY ((zey _ _).1 h)
 cases hfe:zL (.exp E) with
 | false=>
  have H20E:Hid (∀W,Below W1.heap.size W1 W->Calls Tryz.prog 20 #[.agg #[.int .i64 e0, .int .i64 e1, .string e2, .slice e3 e4 e5]] W fun e w'=> e= .returned (.int .i64 2)/\Hid (Below W1.heap.size W1 w')):=ZH (by rw [hfe] at H20E';exact H20E');clear H20E' H20F';go_enter Tryz.func8,Tryz.ntmps8;go_upto_region 1 with fail;rw [<-HW1.out];refine jg (fun W=> Q10 W (w.heap.size + 1) X Y e0 e1 e2 e3 e4 e5 f0 f1 f2 f3 f4 f5) 99 (by kernel_rfl) ?_;refine Sunk.takeN 0 (some 12) (.pointer (some ⟨w.heap.size + 1,0,none⟩)) rfl rfl (by kernel_rfl) (by kernel_rfl) (by kernel_rfl) (by kernel_rfl) (fun _ _ _ h=> h) (HCP.out _ HBD.out) (by rfl) (by rintro W ⟨q0,q1,q2,q3,q4,q5,q6,q7,q8,q9⟩;go_simp) ?_
  (try simp only [ZS])
  refine Sunk.takeN 1 (some 13) (.string X) rfl rfl (by kernel_rfl) (by kernel_rfl) (by kernel_rfl) (by kernel_rfl) (fun _ _ _ h=> h) (HCP.out _ HBD.out) (by rfl) (by rintro W ⟨q0,q1,q2,q3,q4,q5,q6,q7,q8,q9⟩;go_simp) ?_
  (try simp only [ZS])
  refine Sunk.takeN 2 (some 14) (.int .i64 X.size) rfl rfl (by kernel_rfl) (by kernel_rfl) (by kernel_rfl) (by kernel_rfl) (fun _ _ _ h=> h) (HCP.out _ HBD.out) (by rfl) (by rintro W ⟨q0,q1,q2,q3,q4,q5,q6,q7,q8,q9⟩;go_simp) ?_
  (try simp only [ZS])
  refine Sunk.takeN 3 (some 15) (.bool false) rfl rfl (by kernel_rfl) (by kernel_rfl) (by kernel_rfl) (by kernel_rfl) (fun _ _ _ h=> h) (HCP.out _ HBD.out) (by rfl) (by rintro W ⟨q0,q1,q2,q3,q4,q5,q6,q7,q8,q9⟩;go_simp) ?_
  (try simp only [ZS])
  refine Sunk.takeN 4 (some 16) (.bool false) rfl rfl (by kernel_rfl) (by kernel_rfl) (by kernel_rfl) (by kernel_rfl) (fun _ _ _ h=> h) (HCP.out _ HBD.out) (by rfl) (by rintro W ⟨q0,q1,q2,q3,q4,q5,q6,q7,q8,q9⟩;go_simp) ?_
  (try simp only [ZS])
  refine Sunk.takeN 5 (some 17) (.pointer (some ⟨w.heap.size + 1,1,none⟩)) rfl rfl (by kernel_rfl) (by kernel_rfl) (by kernel_rfl) (by kernel_rfl) (fun _ _ _ h=> h) (HCP.out _ HBD.out) (by rfl) (by rintro W ⟨q0,q1,q2,q3,q4,q5,q6,q7,q8,q9⟩;go_simp) ?_
  (try simp only [ZS])
  refine Sunk.takeN 6 (some 18) (.string Y) rfl rfl (by kernel_rfl) (by kernel_rfl) (by kernel_rfl) (by kernel_rfl) (fun _ _ _ h=> h) (HCP.out _ HBD.out) (by rfl) (by rintro W ⟨q0,q1,q2,q3,q4,q5,q6,q7,q8,q9⟩;go_simp) ?_
  (try simp only [ZS])
  refine Sunk.takeN 7 (some 19) (.int .i64 Y.size) rfl rfl (by kernel_rfl) (by kernel_rfl) (by kernel_rfl) (by kernel_rfl) (fun _ _ _ h=> h) (HCP.out _ HBD.out) (by rfl) (by rintro W ⟨q0,q1,q2,q3,q4,q5,q6,q7,q8,q9⟩;go_simp) ?_
  (try simp only [ZS])
  refine Sunk.takeN 8 (some 20) (.bool false) rfl rfl (by kernel_rfl) (by kernel_rfl) (by kernel_rfl) (by kernel_rfl) (fun _ _ _ h=> h) (HCP.out _ HBD.out) (by rfl) (by rintro W ⟨q0,q1,q2,q3,q4,q5,q6,q7,q8,q9⟩;go_simp) ?_
  (try simp only [ZS])
  refine Sunk.takeN 9 (some 21) (.bool false) rfl rfl (by kernel_rfl) (by kernel_rfl) (by kernel_rfl) (by kernel_rfl) (fun _ _ _ h=> h) (HCP.out _ HBD.out) (by rfl) (by rintro W ⟨q0,q1,q2,q3,q4,q5,q6,q7,q8,q9⟩;go_simp) ?_
  (try simp only [ZS])
  refine Sunk.takeN 10 (some 22) (.bool false) rfl rfl (by kernel_rfl) (by kernel_rfl) (by kernel_rfl) (by kernel_rfl) (fun _ _ _ h=> h) (HCP.out _ HBD.out) (by rfl) (by rintro W ⟨q0,q1,q2,q3,q4,q5,q6,q7,q8,q9⟩;go_simp) ?_
  (try simp only [ZS])
  refine Sunk.takeN 11 (some 23) (.pointer (some ⟨w.heap.size + 1,0,none⟩)) rfl rfl (by kernel_rfl) (by kernel_rfl) (by kernel_rfl) (by kernel_rfl) (fun _ _ _ h=> h) (HCP.out _ HBD.out) (by rfl) (by rintro W ⟨q0,q1,q2,q3,q4,q5,q6,q7,q8,q9⟩;go_simp) ?_
  (try simp only [ZS])
  refine Sunk.takeN 12 (some 24) (.string X) rfl rfl (by kernel_rfl) (by kernel_rfl) (by kernel_rfl) (by kernel_rfl) (fun _ _ _ h=> h) (HCP.out _ HBD.out) (by rfl) (by rintro W ⟨q0,q1,q2,q3,q4,q5,q6,q7,q8,q9⟩;go_simp) ?_
  (try simp only [ZS])
  refine Sunk.takeN 13 (some 25) (.pointer (some ⟨w.heap.size + 1,1,none⟩)) rfl rfl (by kernel_rfl) (by kernel_rfl) (by kernel_rfl) (by kernel_rfl) (fun _ _ _ h=> h) (HCP.out _ HBD.out) (by rfl) (by rintro W ⟨q0,q1,q2,q3,q4,q5,q6,q7,q8,q9⟩;go_simp) ?_
  (try simp only [ZS])
  refine Sunk.takeN 14 (some 26) (.string Y) rfl rfl (by kernel_rfl) (by kernel_rfl) (by kernel_rfl) (by kernel_rfl) (fun _ _ _ h=> h) (HCP.out _ HBD.out) (by rfl) (by rintro W ⟨q0,q1,q2,q3,q4,q5,q6,q7,q8,q9⟩;go_simp) ?_
  (try simp only [ZS])
  refine Sunk.takeN 15 (some 27) (.bool false) rfl rfl (by kernel_rfl) (by kernel_rfl) (by kernel_rfl) (by kernel_rfl) (fun _ _ _ h=> h) (HCP.out _ HBD.out) (by rfl) (by rintro W ⟨q0,q1,q2,q3,q4,q5,q6,q7,q8,q9⟩;go_simp) ?_
  (try simp only [ZS])
  refine Sunk.takeN 16 (some 28) (.bool false) rfl rfl (by kernel_rfl) (by kernel_rfl) (by kernel_rfl) (by kernel_rfl) (fun _ _ _ h=> h) (HCP.out _ HBD.out) (by rfl) (by rintro W ⟨q0,q1,q2,q3,q4,q5,q6,q7,q8,q9⟩;go_simp) ?_
  (try simp only [ZS])
  refine Sunk.takeN 17 (some 29) (.bool false) rfl rfl (by kernel_rfl) (by kernel_rfl) (by kernel_rfl) (by kernel_rfl) (fun _ _ _ h=> h) (HCP.out _ HBD.out) (by rfl) (by rintro W ⟨q0,q1,q2,q3,q4,q5,q6,q7,q8,q9⟩;go_simp) ?_
  (try simp only [ZS])
  refine Sunk.takeN 18 (some 30) (.pointer (some ⟨w.heap.size + 1,2,none⟩)) rfl rfl (by kernel_rfl) (by kernel_rfl) (by kernel_rfl) (by kernel_rfl) (fun _ _ _ h=> h) (HCP.out _ HBD.out) (by rfl) (by rintro W ⟨q0,q1,q2,q3,q4,q5,q6,q7,q8,q9⟩;go_simp) ?_
  (try simp only [ZS])
  refine Sunk.takeN 19 (some 31) (.agg #[.int .i64 e0, .int .i64 e1, .string e2, .slice e3 e4 e5]) rfl rfl (by kernel_rfl) (by kernel_rfl) (by kernel_rfl) (by kernel_rfl) (fun _ _ _ h=> h) (HCP.out _ HBD.out) (by rfl) (by rintro W ⟨q0,q1,q2,q3,q4,q5,q6,q7,q8,q9⟩;go_simp) ?_
  (try simp only [ZS])
  refine Sunk.one 20 (by kernel_rfl) rfl (by rfl) (fun K hK=> ?_);go_simp;go_at_call 20;refine (H20E.out _ HBD.out).mono ?_;rintro e x1 ⟨rfl,HBD⟩;refine hK.out _ _ (fun _=> HCP.out _ HBD.out) ?_;clear hK K
  (try simp only [ZS])
  refine Sunk.takeN 21 (some 33) (.bool true) rfl rfl (by kernel_rfl) (by kernel_rfl) (by kernel_rfl) (by kernel_rfl) (fun _ _ _ h=> h) (HCP.out _ HBD.out) (by rfl) (by rintro W ⟨q0,q1,q2,q3,q4,q5,q6,q7,q8,q9⟩;go_simp) ?_
  (try simp only [ZS])
  refine Sunk.takeN 22 (some 34) (.bool true) rfl rfl (by kernel_rfl) (by kernel_rfl) (by kernel_rfl) (by kernel_rfl) (fun _ _ _ h=> h) (HCP.out _ HBD.out) (by rfl) (by rintro W ⟨q0,q1,q2,q3,q4,q5,q6,q7,q8,q9⟩;go_simp) ?_
  (try simp only [ZS])
  refine Sunk.takeN 23 (some 35) (.bool true) rfl rfl (by kernel_rfl) (by kernel_rfl) (by kernel_rfl) (by kernel_rfl) (fun _ _ _ h=> h) (HCP.out _ HBD.out) (by rfl) (by rintro W ⟨q0,q1,q2,q3,q4,q5,q6,q7,q8,q9⟩;go_simp) ?_
  (try simp only [ZS])
  refine Sunk.skipN 24 (some 36) rfl rfl (by kernel_rfl) (by kernel_rfl) (by kernel_rfl) (by kernel_rfl) (fun _ _ _ h=> h) (HCP.out _ HBD.out) (by rfl) ?_
  (try simp only [ZS])
  refine Sunk.skipN 25 (some 37) rfl rfl (by kernel_rfl) (by kernel_rfl) (by kernel_rfl) (by kernel_rfl) (fun _ _ _ h=> h) (HCP.out _ HBD.out) (by rfl) ?_
  (try simp only [ZS])
  refine Sunk.skipN 26 (some 38) rfl rfl (by kernel_rfl) (by kernel_rfl) (by kernel_rfl) (by kernel_rfl) (fun _ _ _ h=> h) (HCP.out _ HBD.out) (by rfl) ?_
  (try simp only [ZS])
  refine Sunk.skipN 27 (some 39) rfl rfl (by kernel_rfl) (by kernel_rfl) (by kernel_rfl) (by kernel_rfl) (fun _ _ _ h=> h) (HCP.out _ HBD.out) (by rfl) ?_
  (try simp only [ZS])
  refine Sunk.takeN 28 (some 40) (.bool true) rfl rfl (by kernel_rfl) (by kernel_rfl) (by kernel_rfl) (by kernel_rfl) (fun _ _ _ h=> h) (HCP.out _ HBD.out) (by rfl) (by rintro W ⟨q0,q1,q2,q3,q4,q5,q6,q7,q8,q9⟩;go_simp) ?_
  (try simp only [ZS])
  refine Sunk.takeN 29 (some 41) (.bool true) rfl rfl (by kernel_rfl) (by kernel_rfl) (by kernel_rfl) (by kernel_rfl) (fun _ _ _ h=> h) (HCP.out _ HBD.out) (by rfl) (by rintro W ⟨q0,q1,q2,q3,q4,q5,q6,q7,q8,q9⟩;go_simp) ?_
  (try simp only [ZS])
  refine Sunk.skipN 30 (some 42) rfl rfl (by kernel_rfl) (by kernel_rfl) (by kernel_rfl) (by kernel_rfl) (fun _ _ _ h=> h) (HCP.out _ HBD.out) (by rfl) ?_
  (try simp only [ZS])
  refine Sunk.skipN 31 (some 43) rfl rfl (by kernel_rfl) (by kernel_rfl) (by kernel_rfl) (by kernel_rfl) (fun _ _ _ h=> h) (HCP.out _ HBD.out) (by rfl) ?_
  (try simp only [ZS])
  refine Sunk.skipN 32 (some 44) rfl rfl (by kernel_rfl) (by kernel_rfl) (by kernel_rfl) (by kernel_rfl) (fun _ _ _ h=> h) (HCP.out _ HBD.out) (by rfl) ?_
  (try simp only [ZS])
  refine Sunk.skipN 33 (some 45) rfl rfl (by kernel_rfl) (by kernel_rfl) (by kernel_rfl) (by kernel_rfl) (fun _ _ _ h=> h) (HCP.out _ HBD.out) (by rfl) ?_
  (try simp only [ZS])
  refine Sunk.skipN 34 (some 46) rfl rfl (by kernel_rfl) (by kernel_rfl) (by kernel_rfl) (by kernel_rfl) (fun _ _ _ h=> h) (HCP.out _ HBD.out) (by rfl) ?_
  (try simp only [ZS])
  refine Sunk.skipN 35 (some 47) rfl rfl (by kernel_rfl) (by kernel_rfl) (by kernel_rfl) (by kernel_rfl) (fun _ _ _ h=> h) (HCP.out _ HBD.out) (by rfl) ?_
  (try simp only [ZS])
  refine Sunk.one 36 (by kernel_rfl) rfl (by rfl) (fun K hK=> ?_);go_simp;refine hK.out _ _ (fun _=> HCP.out _ HBD.out) ?_;clear hK K
  (try simp only [ZS])
  refine Sunk.done (by kernel_rfl) ?_;go_wp2_with (go_at_call 14;refine (HJ14.out _).mono ?_;rintro e' wA ⟨rfl,kA⟩);go_ret;exact ⟨rfl,((HKW.out _ HBD.out).later kA).2.2⟩
 | true=>
  have H20E:Hid (∀W,Below W1.heap.size W1 W->Calls Tryz.prog 20 #[.agg #[.int .i64 e0, .int .i64 e1, .string e2, .slice e3 e4 e5]] W fun e w'=> e= .returned (.int .i64 0)/\Hid (Below W1.heap.size W1 w')):=ZH (by rw [hfe] at H20E';exact H20E');clear H20E';cases hff:zL (.exp F) with
  | false=>
   have H20F:Hid (∀W,Below W1.heap.size W1 W->Calls Tryz.prog 20 #[.agg #[.int .i64 f0, .int .i64 f1, .string f2, .slice f3 f4 f5]] W fun e w'=> e= .returned (.int .i64 2)/\Hid (Below W1.heap.size W1 w')):=ZH (by rw [hff] at H20F';exact H20F');clear H20F';go_enter Tryz.func8,Tryz.ntmps8;go_upto_region 1 with fail;rw [<-HW1.out];refine jg (fun W=> Q10 W (w.heap.size + 1) X Y e0 e1 e2 e3 e4 e5 f0 f1 f2 f3 f4 f5) 99 (by kernel_rfl) ?_;refine Sunk.takeN 0 (some 12) (.pointer (some ⟨w.heap.size + 1,0,none⟩)) rfl rfl (by kernel_rfl) (by kernel_rfl) (by kernel_rfl) (by kernel_rfl) (fun _ _ _ h=> h) (HCP.out _ HBD.out) (by rfl) (by rintro W ⟨q0,q1,q2,q3,q4,q5,q6,q7,q8,q9⟩;go_simp) ?_
   (try simp only [ZS])
   refine Sunk.takeN 1 (some 13) (.string X) rfl rfl (by kernel_rfl) (by kernel_rfl) (by kernel_rfl) (by kernel_rfl) (fun _ _ _ h=> h) (HCP.out _ HBD.out) (by rfl) (by rintro W ⟨q0,q1,q2,q3,q4,q5,q6,q7,q8,q9⟩;go_simp) ?_
   (try simp only [ZS])
   refine Sunk.takeN 2 (some 14) (.int .i64 X.size) rfl rfl (by kernel_rfl) (by kernel_rfl) (by kernel_rfl) (by kernel_rfl) (fun _ _ _ h=> h) (HCP.out _ HBD.out) (by rfl) (by rintro W ⟨q0,q1,q2,q3,q4,q5,q6,q7,q8,q9⟩;go_simp) ?_
   (try simp only [ZS])
   refine Sunk.takeN 3 (some 15) (.bool false) rfl rfl (by kernel_rfl) (by kernel_rfl) (by kernel_rfl) (by kernel_rfl) (fun _ _ _ h=> h) (HCP.out _ HBD.out) (by rfl) (by rintro W ⟨q0,q1,q2,q3,q4,q5,q6,q7,q8,q9⟩;go_simp) ?_
   (try simp only [ZS])
   refine Sunk.takeN 4 (some 16) (.bool false) rfl rfl (by kernel_rfl) (by kernel_rfl) (by kernel_rfl) (by kernel_rfl) (fun _ _ _ h=> h) (HCP.out _ HBD.out) (by rfl) (by rintro W ⟨q0,q1,q2,q3,q4,q5,q6,q7,q8,q9⟩;go_simp) ?_
   (try simp only [ZS])
   refine Sunk.takeN 5 (some 17) (.pointer (some ⟨w.heap.size + 1,1,none⟩)) rfl rfl (by kernel_rfl) (by kernel_rfl) (by kernel_rfl) (by kernel_rfl) (fun _ _ _ h=> h) (HCP.out _ HBD.out) (by rfl) (by rintro W ⟨q0,q1,q2,q3,q4,q5,q6,q7,q8,q9⟩;go_simp) ?_
   (try simp only [ZS])
   refine Sunk.takeN 6 (some 18) (.string Y) rfl rfl (by kernel_rfl) (by kernel_rfl) (by kernel_rfl) (by kernel_rfl) (fun _ _ _ h=> h) (HCP.out _ HBD.out) (by rfl) (by rintro W ⟨q0,q1,q2,q3,q4,q5,q6,q7,q8,q9⟩;go_simp) ?_
   (try simp only [ZS])
   refine Sunk.takeN 7 (some 19) (.int .i64 Y.size) rfl rfl (by kernel_rfl) (by kernel_rfl) (by kernel_rfl) (by kernel_rfl) (fun _ _ _ h=> h) (HCP.out _ HBD.out) (by rfl) (by rintro W ⟨q0,q1,q2,q3,q4,q5,q6,q7,q8,q9⟩;go_simp) ?_
   (try simp only [ZS])
   refine Sunk.takeN 8 (some 20) (.bool false) rfl rfl (by kernel_rfl) (by kernel_rfl) (by kernel_rfl) (by kernel_rfl) (fun _ _ _ h=> h) (HCP.out _ HBD.out) (by rfl) (by rintro W ⟨q0,q1,q2,q3,q4,q5,q6,q7,q8,q9⟩;go_simp) ?_
   (try simp only [ZS])
   refine Sunk.takeN 9 (some 21) (.bool false) rfl rfl (by kernel_rfl) (by kernel_rfl) (by kernel_rfl) (by kernel_rfl) (fun _ _ _ h=> h) (HCP.out _ HBD.out) (by rfl) (by rintro W ⟨q0,q1,q2,q3,q4,q5,q6,q7,q8,q9⟩;go_simp) ?_
   (try simp only [ZS])
   refine Sunk.takeN 10 (some 22) (.bool false) rfl rfl (by kernel_rfl) (by kernel_rfl) (by kernel_rfl) (by kernel_rfl) (fun _ _ _ h=> h) (HCP.out _ HBD.out) (by rfl) (by rintro W ⟨q0,q1,q2,q3,q4,q5,q6,q7,q8,q9⟩;go_simp) ?_
   (try simp only [ZS])
   refine Sunk.takeN 11 (some 23) (.pointer (some ⟨w.heap.size + 1,0,none⟩)) rfl rfl (by kernel_rfl) (by kernel_rfl) (by kernel_rfl) (by kernel_rfl) (fun _ _ _ h=> h) (HCP.out _ HBD.out) (by rfl) (by rintro W ⟨q0,q1,q2,q3,q4,q5,q6,q7,q8,q9⟩;go_simp) ?_
   (try simp only [ZS])
   refine Sunk.takeN 12 (some 24) (.string X) rfl rfl (by kernel_rfl) (by kernel_rfl) (by kernel_rfl) (by kernel_rfl) (fun _ _ _ h=> h) (HCP.out _ HBD.out) (by rfl) (by rintro W ⟨q0,q1,q2,q3,q4,q5,q6,q7,q8,q9⟩;go_simp) ?_
   (try simp only [ZS])
   refine Sunk.takeN 13 (some 25) (.pointer (some ⟨w.heap.size + 1,1,none⟩)) rfl rfl (by kernel_rfl) (by kernel_rfl) (by kernel_rfl) (by kernel_rfl) (fun _ _ _ h=> h) (HCP.out _ HBD.out) (by rfl) (by rintro W ⟨q0,q1,q2,q3,q4,q5,q6,q7,q8,q9⟩;go_simp) ?_
   (try simp only [ZS])
   refine Sunk.takeN 14 (some 26) (.string Y) rfl rfl (by kernel_rfl) (by kernel_rfl) (by kernel_rfl) (by kernel_rfl) (fun _ _ _ h=> h) (HCP.out _ HBD.out) (by rfl) (by rintro W ⟨q0,q1,q2,q3,q4,q5,q6,q7,q8,q9⟩;go_simp) ?_
   (try simp only [ZS])
   refine Sunk.takeN 15 (some 27) (.bool false) rfl rfl (by kernel_rfl) (by kernel_rfl) (by kernel_rfl) (by kernel_rfl) (fun _ _ _ h=> h) (HCP.out _ HBD.out) (by rfl) (by rintro W ⟨q0,q1,q2,q3,q4,q5,q6,q7,q8,q9⟩;go_simp) ?_
   (try simp only [ZS])
   refine Sunk.takeN 16 (some 28) (.bool false) rfl rfl (by kernel_rfl) (by kernel_rfl) (by kernel_rfl) (by kernel_rfl) (fun _ _ _ h=> h) (HCP.out _ HBD.out) (by rfl) (by rintro W ⟨q0,q1,q2,q3,q4,q5,q6,q7,q8,q9⟩;go_simp) ?_
   (try simp only [ZS])
   refine Sunk.takeN 17 (some 29) (.bool false) rfl rfl (by kernel_rfl) (by kernel_rfl) (by kernel_rfl) (by kernel_rfl) (fun _ _ _ h=> h) (HCP.out _ HBD.out) (by rfl) (by rintro W ⟨q0,q1,q2,q3,q4,q5,q6,q7,q8,q9⟩;go_simp) ?_
   (try simp only [ZS])
   refine Sunk.takeN 18 (some 30) (.pointer (some ⟨w.heap.size + 1,2,none⟩)) rfl rfl (by kernel_rfl) (by kernel_rfl) (by kernel_rfl) (by kernel_rfl) (fun _ _ _ h=> h) (HCP.out _ HBD.out) (by rfl) (by rintro W ⟨q0,q1,q2,q3,q4,q5,q6,q7,q8,q9⟩;go_simp) ?_
   (try simp only [ZS])
   refine Sunk.takeN 19 (some 31) (.agg #[.int .i64 e0, .int .i64 e1, .string e2, .slice e3 e4 e5]) rfl rfl (by kernel_rfl) (by kernel_rfl) (by kernel_rfl) (by kernel_rfl) (fun _ _ _ h=> h) (HCP.out _ HBD.out) (by rfl) (by rintro W ⟨q0,q1,q2,q3,q4,q5,q6,q7,q8,q9⟩;go_simp) ?_
   (try simp only [ZS])
   refine Sunk.one 20 (by kernel_rfl) rfl (by rfl) (fun K hK=> ?_);go_simp;go_at_call 20;refine (H20E.out _ HBD.out).mono ?_;rintro e x1 ⟨rfl,HBD⟩;refine hK.out _ _ (fun _=> HCP.out _ HBD.out) ?_;clear hK K
   (try simp only [ZS])
   refine Sunk.takeN 21 (some 33) (.bool false) rfl rfl (by kernel_rfl) (by kernel_rfl) (by kernel_rfl) (by kernel_rfl) (fun _ _ _ h=> h) (HCP.out _ HBD.out) (by rfl) (by rintro W ⟨q0,q1,q2,q3,q4,q5,q6,q7,q8,q9⟩;go_simp) ?_
   (try simp only [ZS])
   refine Sunk.takeN 22 (some 34) (.bool false) rfl rfl (by kernel_rfl) (by kernel_rfl) (by kernel_rfl) (by kernel_rfl) (fun _ _ _ h=> h) (HCP.out _ HBD.out) (by rfl) (by rintro W ⟨q0,q1,q2,q3,q4,q5,q6,q7,q8,q9⟩;go_simp) ?_
   (try simp only [ZS])
   refine Sunk.takeN 23 (some 35) (.bool false) rfl rfl (by kernel_rfl) (by kernel_rfl) (by kernel_rfl) (by kernel_rfl) (fun _ _ _ h=> h) (HCP.out _ HBD.out) (by rfl) (by rintro W ⟨q0,q1,q2,q3,q4,q5,q6,q7,q8,q9⟩;go_simp) ?_
   (try simp only [ZS])
   refine Sunk.takeN 24 (some 36) (.pointer (some ⟨w.heap.size + 1,6,none⟩)) rfl rfl (by kernel_rfl) (by kernel_rfl) (by kernel_rfl) (by kernel_rfl) (fun _ _ _ h=> h) (HCP.out _ HBD.out) (by rfl) (by rintro W ⟨q0,q1,q2,q3,q4,q5,q6,q7,q8,q9⟩;go_simp) ?_
   (try simp only [ZS])
   refine Sunk.takeN 25 (some 37) (.agg #[.int .i64 f0, .int .i64 f1, .string f2, .slice f3 f4 f5]) rfl rfl (by kernel_rfl) (by kernel_rfl) (by kernel_rfl) (by kernel_rfl) (fun _ _ _ h=> h) (HCP.out _ HBD.out) (by rfl) (by rintro W ⟨q0,q1,q2,q3,q4,q5,q6,q7,q8,q9⟩;go_simp) ?_
   (try simp only [ZS])
   refine Sunk.one 26 (by kernel_rfl) rfl (by rfl) (fun K hK=> ?_);go_simp;go_at_call 20;refine (H20F.out _ HBD.out).mono ?_;rintro e x2 ⟨rfl,HBD⟩;refine hK.out _ _ (fun _=> HCP.out _ HBD.out) ?_;clear hK K
   (try simp only [ZS])
   refine Sunk.takeN 27 (some 39) (.bool true) rfl rfl (by kernel_rfl) (by kernel_rfl) (by kernel_rfl) (by kernel_rfl) (fun _ _ _ h=> h) (HCP.out _ HBD.out) (by rfl) (by rintro W ⟨q0,q1,q2,q3,q4,q5,q6,q7,q8,q9⟩;go_simp) ?_
   (try simp only [ZS])
   refine Sunk.takeN 28 (some 40) (.bool true) rfl rfl (by kernel_rfl) (by kernel_rfl) (by kernel_rfl) (by kernel_rfl) (fun _ _ _ h=> h) (HCP.out _ HBD.out) (by rfl) (by rintro W ⟨q0,q1,q2,q3,q4,q5,q6,q7,q8,q9⟩;go_simp) ?_
   (try simp only [ZS])
   refine Sunk.takeN 29 (some 41) (.bool true) rfl rfl (by kernel_rfl) (by kernel_rfl) (by kernel_rfl) (by kernel_rfl) (fun _ _ _ h=> h) (HCP.out _ HBD.out) (by rfl) (by rintro W ⟨q0,q1,q2,q3,q4,q5,q6,q7,q8,q9⟩;go_simp) ?_
   (try simp only [ZS])
   refine Sunk.skipN 30 (some 42) rfl rfl (by kernel_rfl) (by kernel_rfl) (by kernel_rfl) (by kernel_rfl) (fun _ _ _ h=> h) (HCP.out _ HBD.out) (by rfl) ?_
   (try simp only [ZS])
   refine Sunk.skipN 31 (some 43) rfl rfl (by kernel_rfl) (by kernel_rfl) (by kernel_rfl) (by kernel_rfl) (fun _ _ _ h=> h) (HCP.out _ HBD.out) (by rfl) ?_
   (try simp only [ZS])
   refine Sunk.skipN 32 (some 44) rfl rfl (by kernel_rfl) (by kernel_rfl) (by kernel_rfl) (by kernel_rfl) (fun _ _ _ h=> h) (HCP.out _ HBD.out) (by rfl) ?_
   (try simp only [ZS])
   refine Sunk.skipN 33 (some 45) rfl rfl (by kernel_rfl) (by kernel_rfl) (by kernel_rfl) (by kernel_rfl) (fun _ _ _ h=> h) (HCP.out _ HBD.out) (by rfl) ?_
   (try simp only [ZS])
   refine Sunk.skipN 34 (some 46) rfl rfl (by kernel_rfl) (by kernel_rfl) (by kernel_rfl) (by kernel_rfl) (fun _ _ _ h=> h) (HCP.out _ HBD.out) (by rfl) ?_
   (try simp only [ZS])
   refine Sunk.skipN 35 (some 47) rfl rfl (by kernel_rfl) (by kernel_rfl) (by kernel_rfl) (by kernel_rfl) (fun _ _ _ h=> h) (HCP.out _ HBD.out) (by rfl) ?_
   (try simp only [ZS])
   refine Sunk.one 36 (by kernel_rfl) rfl (by rfl) (fun K hK=> ?_);go_simp;refine hK.out _ _ (fun _=> HCP.out _ HBD.out) ?_;clear hK K
   (try simp only [ZS])
   refine Sunk.done (by kernel_rfl) ?_;go_wp2_with (go_at_call 14;refine (HJ14.out _).mono ?_;rintro e' wA ⟨rfl,kA⟩);go_ret;exact ⟨rfl,((HKW.out _ HBD.out).later kA).2.2⟩
  | true=>
   have H20F:Hid (∀W,Below W1.heap.size W1 W->Calls Tryz.prog 20 #[.agg #[.int .i64 f0, .int .i64 f1, .string f2, .slice f3 f4 f5]] W fun e w'=> e= .returned (.int .i64 0)/\Hid (Below W1.heap.size W1 w')):=ZH (by rw [hff] at H20F';exact H20F');clear H20F';obtain ⟨hb,hhb⟩:∃b,b=fE F (zb X):=⟨_,rfl⟩
   have H37:Hid (∀W,Below W1.heap.size W1 W->Calls Tryz.prog 37 #[.agg #[.int .i64 f0, .int .i64 f1, .string f2, .slice f3 f4 f5]] W fun e w'=> ∃va,e= .returned va/\Hid (Below W1.heap.size W1 w')/\Hid (Calls Tryz.prog 36 #[va, .string X] w' fun e w''=> e= .returned (.bool hb)/\w''=w')):=ZH fun W hW=> by
    have k:=HKW.out W hW;refine (freeExp_any F (qI.2 hff) w.heap.size w W _ k.1 k.2.1 HFA.out).mono ?_;rintro e w' ⟨v,L,rfl,h1,h2,h3⟩;refine ⟨v,rfl,ZH (hW.trans (h3.mono hW.size)),ZH ?_⟩;have h4:=zay w'.heap.size v L X w' h1;have h5:hasB L X=hb:=by rw [hhb,Bool.eq_iff_iff,has_iff];exact h2.out _
    rw [h5] at h4;exact h4
   have HHB:=ZH hhb;have HXY:=ZH hXY;have HFE:=ZH hfe;have HFF:=ZH hff;clear hhb hXY hfe hff;go_enter Tryz.func8,Tryz.ntmps8;go_upto_region 1 with fail;rw [<-HW1.out];refine jg (fun W=> Q10 W (w.heap.size + 1) X Y e0 e1 e2 e3 e4 e5 f0 f1 f2 f3 f4 f5) 99 (by kernel_rfl) ?_;refine Sunk.takeN 0 (some 12) (.pointer (some ⟨w.heap.size + 1,0,none⟩)) rfl rfl (by kernel_rfl) (by kernel_rfl) (by kernel_rfl) (by kernel_rfl) (fun _ _ _ h=> h) (HCP.out _ HBD.out) (by rfl) (by rintro W ⟨q0,q1,q2,q3,q4,q5,q6,q7,q8,q9⟩;go_simp) ?_
   (try simp only [ZS])
   refine Sunk.takeN 1 (some 13) (.string X) rfl rfl (by kernel_rfl) (by kernel_rfl) (by kernel_rfl) (by kernel_rfl) (fun _ _ _ h=> h) (HCP.out _ HBD.out) (by rfl) (by rintro W ⟨q0,q1,q2,q3,q4,q5,q6,q7,q8,q9⟩;go_simp) ?_
   (try simp only [ZS])
   refine Sunk.takeN 2 (some 14) (.int .i64 X.size) rfl rfl (by kernel_rfl) (by kernel_rfl) (by kernel_rfl) (by kernel_rfl) (fun _ _ _ h=> h) (HCP.out _ HBD.out) (by rfl) (by rintro W ⟨q0,q1,q2,q3,q4,q5,q6,q7,q8,q9⟩;go_simp) ?_
   (try simp only [ZS])
   refine Sunk.takeN 3 (some 15) (.bool false) rfl rfl (by kernel_rfl) (by kernel_rfl) (by kernel_rfl) (by kernel_rfl) (fun _ _ _ h=> h) (HCP.out _ HBD.out) (by rfl) (by rintro W ⟨q0,q1,q2,q3,q4,q5,q6,q7,q8,q9⟩;go_simp) ?_
   (try simp only [ZS])
   refine Sunk.takeN 4 (some 16) (.bool false) rfl rfl (by kernel_rfl) (by kernel_rfl) (by kernel_rfl) (by kernel_rfl) (fun _ _ _ h=> h) (HCP.out _ HBD.out) (by rfl) (by rintro W ⟨q0,q1,q2,q3,q4,q5,q6,q7,q8,q9⟩;go_simp) ?_
   (try simp only [ZS])
   refine Sunk.takeN 5 (some 17) (.pointer (some ⟨w.heap.size + 1,1,none⟩)) rfl rfl (by kernel_rfl) (by kernel_rfl) (by kernel_rfl) (by kernel_rfl) (fun _ _ _ h=> h) (HCP.out _ HBD.out) (by rfl) (by rintro W ⟨q0,q1,q2,q3,q4,q5,q6,q7,q8,q9⟩;go_simp) ?_
   (try simp only [ZS])
   refine Sunk.takeN 6 (some 18) (.string Y) rfl rfl (by kernel_rfl) (by kernel_rfl) (by kernel_rfl) (by kernel_rfl) (fun _ _ _ h=> h) (HCP.out _ HBD.out) (by rfl) (by rintro W ⟨q0,q1,q2,q3,q4,q5,q6,q7,q8,q9⟩;go_simp) ?_
   (try simp only [ZS])
   refine Sunk.takeN 7 (some 19) (.int .i64 Y.size) rfl rfl (by kernel_rfl) (by kernel_rfl) (by kernel_rfl) (by kernel_rfl) (fun _ _ _ h=> h) (HCP.out _ HBD.out) (by rfl) (by rintro W ⟨q0,q1,q2,q3,q4,q5,q6,q7,q8,q9⟩;go_simp) ?_
   (try simp only [ZS])
   refine Sunk.takeN 8 (some 20) (.bool false) rfl rfl (by kernel_rfl) (by kernel_rfl) (by kernel_rfl) (by kernel_rfl) (fun _ _ _ h=> h) (HCP.out _ HBD.out) (by rfl) (by rintro W ⟨q0,q1,q2,q3,q4,q5,q6,q7,q8,q9⟩;go_simp) ?_
   (try simp only [ZS])
   refine Sunk.takeN 9 (some 21) (.bool false) rfl rfl (by kernel_rfl) (by kernel_rfl) (by kernel_rfl) (by kernel_rfl) (fun _ _ _ h=> h) (HCP.out _ HBD.out) (by rfl) (by rintro W ⟨q0,q1,q2,q3,q4,q5,q6,q7,q8,q9⟩;go_simp) ?_
   (try simp only [ZS])
   refine Sunk.takeN 10 (some 22) (.bool false) rfl rfl (by kernel_rfl) (by kernel_rfl) (by kernel_rfl) (by kernel_rfl) (fun _ _ _ h=> h) (HCP.out _ HBD.out) (by rfl) (by rintro W ⟨q0,q1,q2,q3,q4,q5,q6,q7,q8,q9⟩;go_simp) ?_
   (try simp only [ZS])
   refine Sunk.takeN 11 (some 23) (.pointer (some ⟨w.heap.size + 1,0,none⟩)) rfl rfl (by kernel_rfl) (by kernel_rfl) (by kernel_rfl) (by kernel_rfl) (fun _ _ _ h=> h) (HCP.out _ HBD.out) (by rfl) (by rintro W ⟨q0,q1,q2,q3,q4,q5,q6,q7,q8,q9⟩;go_simp) ?_
   (try simp only [ZS])
   refine Sunk.takeN 12 (some 24) (.string X) rfl rfl (by kernel_rfl) (by kernel_rfl) (by kernel_rfl) (by kernel_rfl) (fun _ _ _ h=> h) (HCP.out _ HBD.out) (by rfl) (by rintro W ⟨q0,q1,q2,q3,q4,q5,q6,q7,q8,q9⟩;go_simp) ?_
   (try simp only [ZS])
   refine Sunk.takeN 13 (some 25) (.pointer (some ⟨w.heap.size + 1,1,none⟩)) rfl rfl (by kernel_rfl) (by kernel_rfl) (by kernel_rfl) (by kernel_rfl) (fun _ _ _ h=> h) (HCP.out _ HBD.out) (by rfl) (by rintro W ⟨q0,q1,q2,q3,q4,q5,q6,q7,q8,q9⟩;go_simp) ?_
   (try simp only [ZS])
   refine Sunk.takeN 14 (some 26) (.string Y) rfl rfl (by kernel_rfl) (by kernel_rfl) (by kernel_rfl) (by kernel_rfl) (fun _ _ _ h=> h) (HCP.out _ HBD.out) (by rfl) (by rintro W ⟨q0,q1,q2,q3,q4,q5,q6,q7,q8,q9⟩;go_simp) ?_
   (try simp only [ZS])
   refine Sunk.takeN 15 (some 27) (.bool false) rfl rfl (by kernel_rfl) (by kernel_rfl) (by kernel_rfl) (by kernel_rfl) (fun _ _ _ h=> h) (HCP.out _ HBD.out) (by rfl) (by rintro W ⟨q0,q1,q2,q3,q4,q5,q6,q7,q8,q9⟩;go_simp) ?_
   (try simp only [ZS])
   refine Sunk.takeN 16 (some 28) (.bool false) rfl rfl (by kernel_rfl) (by kernel_rfl) (by kernel_rfl) (by kernel_rfl) (fun _ _ _ h=> h) (HCP.out _ HBD.out) (by rfl) (by rintro W ⟨q0,q1,q2,q3,q4,q5,q6,q7,q8,q9⟩;go_simp) ?_
   (try simp only [ZS])
   refine Sunk.takeN 17 (some 29) (.bool false) rfl rfl (by kernel_rfl) (by kernel_rfl) (by kernel_rfl) (by kernel_rfl) (fun _ _ _ h=> h) (HCP.out _ HBD.out) (by rfl) (by rintro W ⟨q0,q1,q2,q3,q4,q5,q6,q7,q8,q9⟩;go_simp) ?_
   (try simp only [ZS])
   refine Sunk.takeN 18 (some 30) (.pointer (some ⟨w.heap.size + 1,2,none⟩)) rfl rfl (by kernel_rfl) (by kernel_rfl) (by kernel_rfl) (by kernel_rfl) (fun _ _ _ h=> h) (HCP.out _ HBD.out) (by rfl) (by rintro W ⟨q0,q1,q2,q3,q4,q5,q6,q7,q8,q9⟩;go_simp) ?_
   (try simp only [ZS])
   refine Sunk.takeN 19 (some 31) (.agg #[.int .i64 e0, .int .i64 e1, .string e2, .slice e3 e4 e5]) rfl rfl (by kernel_rfl) (by kernel_rfl) (by kernel_rfl) (by kernel_rfl) (fun _ _ _ h=> h) (HCP.out _ HBD.out) (by rfl) (by rintro W ⟨q0,q1,q2,q3,q4,q5,q6,q7,q8,q9⟩;go_simp) ?_
   (try simp only [ZS])
   refine Sunk.one 20 (by kernel_rfl) rfl (by rfl) (fun K hK=> ?_);go_simp;go_at_call 20;refine (H20E.out _ HBD.out).mono ?_;rintro e x1 ⟨rfl,HBD⟩;refine hK.out _ _ (fun _=> HCP.out _ HBD.out) ?_;clear hK K
   (try simp only [ZS])
   refine Sunk.takeN 21 (some 33) (.bool false) rfl rfl (by kernel_rfl) (by kernel_rfl) (by kernel_rfl) (by kernel_rfl) (fun _ _ _ h=> h) (HCP.out _ HBD.out) (by rfl) (by rintro W ⟨q0,q1,q2,q3,q4,q5,q6,q7,q8,q9⟩;go_simp) ?_
   (try simp only [ZS])
   refine Sunk.takeN 22 (some 34) (.bool false) rfl rfl (by kernel_rfl) (by kernel_rfl) (by kernel_rfl) (by kernel_rfl) (fun _ _ _ h=> h) (HCP.out _ HBD.out) (by rfl) (by rintro W ⟨q0,q1,q2,q3,q4,q5,q6,q7,q8,q9⟩;go_simp) ?_
   (try simp only [ZS])
   refine Sunk.takeN 23 (some 35) (.bool false) rfl rfl (by kernel_rfl) (by kernel_rfl) (by kernel_rfl) (by kernel_rfl) (fun _ _ _ h=> h) (HCP.out _ HBD.out) (by rfl) (by rintro W ⟨q0,q1,q2,q3,q4,q5,q6,q7,q8,q9⟩;go_simp) ?_
   (try simp only [ZS])
   refine Sunk.takeN 24 (some 36) (.pointer (some ⟨w.heap.size + 1,6,none⟩)) rfl rfl (by kernel_rfl) (by kernel_rfl) (by kernel_rfl) (by kernel_rfl) (fun _ _ _ h=> h) (HCP.out _ HBD.out) (by rfl) (by rintro W ⟨q0,q1,q2,q3,q4,q5,q6,q7,q8,q9⟩;go_simp) ?_
   (try simp only [ZS])
   refine Sunk.takeN 25 (some 37) (.agg #[.int .i64 f0, .int .i64 f1, .string f2, .slice f3 f4 f5]) rfl rfl (by kernel_rfl) (by kernel_rfl) (by kernel_rfl) (by kernel_rfl) (fun _ _ _ h=> h) (HCP.out _ HBD.out) (by rfl) (by rintro W ⟨q0,q1,q2,q3,q4,q5,q6,q7,q8,q9⟩;go_simp) ?_
   (try simp only [ZS])
   refine Sunk.one 26 (by kernel_rfl) rfl (by rfl) (fun K hK=> ?_);go_simp;go_at_call 20;refine (H20F.out _ HBD.out).mono ?_;rintro e x2 ⟨rfl,HBD⟩;refine hK.out _ _ (fun _=> HCP.out _ HBD.out) ?_;clear hK K
   (try simp only [ZS])
   refine Sunk.takeN 27 (some 39) (.bool false) rfl rfl (by kernel_rfl) (by kernel_rfl) (by kernel_rfl) (by kernel_rfl) (fun _ _ _ h=> h) (HCP.out _ HBD.out) (by rfl) (by rintro W ⟨q0,q1,q2,q3,q4,q5,q6,q7,q8,q9⟩;go_simp) ?_
   (try simp only [ZS])
   refine Sunk.takeN 28 (some 40) (.bool false) rfl rfl (by kernel_rfl) (by kernel_rfl) (by kernel_rfl) (by kernel_rfl) (fun _ _ _ h=> h) (HCP.out _ HBD.out) (by rfl) (by rintro W ⟨q0,q1,q2,q3,q4,q5,q6,q7,q8,q9⟩;go_simp) ?_
   (try simp only [ZS])
   refine Sunk.takeN 29 (some 41) (.bool false) rfl rfl (by kernel_rfl) (by kernel_rfl) (by kernel_rfl) (by kernel_rfl) (fun _ _ _ h=> h) (HCP.out _ HBD.out) (by rfl) (by rintro W ⟨q0,q1,q2,q3,q4,q5,q6,q7,q8,q9⟩;go_simp) ?_
   (try simp only [ZS])
   refine Sunk.takeN 30 (some 42) (.pointer (some ⟨w.heap.size + 1,6,none⟩)) rfl rfl (by kernel_rfl) (by kernel_rfl) (by kernel_rfl) (by kernel_rfl) (fun _ _ _ h=> h) (HCP.out _ HBD.out) (by rfl) (by rintro W ⟨q0,q1,q2,q3,q4,q5,q6,q7,q8,q9⟩;go_simp) ?_
   (try simp only [ZS])
   refine Sunk.takeN 31 (some 43) (.agg #[.int .i64 f0, .int .i64 f1, .string f2, .slice f3 f4 f5]) rfl rfl (by kernel_rfl) (by kernel_rfl) (by kernel_rfl) (by kernel_rfl) (fun _ _ _ h=> h) (HCP.out _ HBD.out) (by rfl) (by rintro W ⟨q0,q1,q2,q3,q4,q5,q6,q7,q8,q9⟩;go_simp) ?_
   (try simp only [ZS])
   refine Sunk.takeN 33 (some 45) (.pointer (some ⟨w.heap.size + 1,0,none⟩)) rfl rfl (by kernel_rfl) (by kernel_rfl) (by kernel_rfl) (by kernel_rfl) (fun _ _ _ h=> h) (HCP.out _ HBD.out) (by rfl) (by rintro W ⟨q0,q1,q2,q3,q4,q5,q6,q7,q8,q9⟩;go_simp) ?_
   (try simp only [ZS])
   refine Sunk.takeN 34 (some 46) (.string X) rfl rfl (by kernel_rfl) (by kernel_rfl) (by kernel_rfl) (by kernel_rfl) (fun _ _ _ h=> h) (HCP.out _ HBD.out) (by rfl) (by rintro W ⟨q0,q1,q2,q3,q4,q5,q6,q7,q8,q9⟩;go_simp) ?_
   (try simp only [ZS])
   refine Sunk.one 32 (by kernel_rfl) rfl (by rfl) (fun K hK=> ?_);go_simp;go_at_call 37;refine (H37.out _ HBD.out).mono ?_;rintro e x3 ⟨va,rfl,HBD,HHA⟩;refine hK.out _ _ (fun _=> HCP.out _ HBD.out) ?_;clear hK K
   (try simp only [ZS])
   refine Sunk.one 35 (by kernel_rfl) rfl (by rfl) (fun K hK=> ?_);go_simp;go_at_call 36;refine (HHA.out).mono ?_;rintro e x4 ⟨rfl,rfl⟩;refine hK.out _ _ (fun _=> HCP.out _ HBD.out) ?_;clear hK K
   (try simp only [ZS])
   refine Sunk.one 36 (by kernel_rfl) rfl (by rfl) (fun K hK=> ?_);go_simp;refine hK.out _ _ (fun _=> HCP.out _ HBD.out) ?_;clear hK K
   (try simp only [ZS])
   refine Sunk.done (by kernel_rfl) ?_;cases hb with
   | true=>
    go_wp2_with (go_at_call 14;refine (HJ14.out _).mono ?_;rintro e' wA ⟨rfl,kA⟩);go_ret;exact ⟨rfl,((HKW.out _ HBD.out).later kA).2.2⟩
   | false=>
    clear H20E H20F H37;have hbd:=HBD.out;clear HBD;obtain ⟨ca,hca⟩:∃c,c=putCode t X E:=⟨_,rfl⟩;obtain ⟨cb,hcb⟩:∃c,c=putCode t Y F:=⟨_,rfl⟩;have HCA:=ZH hca;have HCB:=ZH hcb;have KW:=HKW.out _ hbd;have K33a:=put_out t X E hXz w.heap.size w _ _ _ KW.1 KW.2.1 HT.out HE.out;rw [<-hca] at K33a;clear hca hcb KW;obtain ⟨t0',t1',t2',t3',t4'⟩:=HCT.out _ hbd;obtain ⟨q0,q1,q2,q3,q4,q5,q6,q7,q8,q9⟩:=HCP.out _ hbd;go_wp2_with fail;refine K33a.mono ?_;clear K33a t0' t1' t2' t3' t4' q0 q1 q2 q3 q4 q5 q6 q7 q8 q9;rintro e' w2 ⟨a0,a1,a2,a3,a4,a5,a6,a7,a8,a9,aA,rfl,ha,k2⟩;have hbd2:=hbd.trans (k2.mono hbd.size);clear k2 hbd;obtain ⟨W2,hW2⟩:∃X,X=w2.alloc (.cells #[.int .i64 a0, .string a1, .slice a2 a3 a4, .slice a5 a6 a7, .slice a8 a9 aA] 33):=⟨_,rfl⟩;have bW2:Below w2.heap.size w2 W2:=by rw [hW2];exact alloc_below _ _
    have Ca:Hid (Q5 W2 w2.heap.size a0 a1 a2 a3 a4 a5 a6 a7 a8 a9 aA):=ZH (by rw [hW2];exact Q5.new ..);have Ta:=ZH (term_later ha.out bW2);have HB2:=ZH (hbd2.trans (bW2.mono hbd2.size));have KW:=HKW.out _ HB2.out;have K33b:=put_out t Y F hYz w.heap.size w W2 _ _ KW.1 KW.2.1 HT.out HFA.out;rw [<-HCB.out] at K33b;obtain ⟨t0',t1',t2',t3',t4'⟩:=HCT.out _ HB2.out;obtain ⟨q0,q1,q2,q3,q4,q5,q6,q7,q8,q9⟩:=HCP.out _ HB2.out;have HW2:=ZH hW2;rw [HW2.out] at t0' t1' t2' t3' t4' q0 q1 q2 q3 q4 q5 q6 q7 q8 q9;clear hW2 bW2 hbd2 KW ha;go_wp2_with fail;rw [<-HW2.out];refine K33b.mono ?_;clear K33b t0' t1' t2' t3' t4' q0 q1 q2 q3 q4 q5 q6 q7 q8 q9;rintro e' w3 ⟨b0,b1,b2,b3,b4,b5,b6,b7,b8,b9,bA,rfl,hbb,k3⟩;have hb3:=HB2.out.trans (k3.mono HB2.out.size);have Ca2:=ZH (Ca.out.later k3);have Ta2:=ZH (term_later Ta.out k3);clear k3 Ca Ta;obtain ⟨W3,hW3⟩:∃X,X=w3.alloc (.cells #[.int .i64 b0, .string b1, .slice b2 b3 b4, .slice b5 b6 b7, .slice b8 b9 bA] 33):=⟨_,rfl⟩;have bW3:Below w3.heap.size w3 W3:=by rw [hW3];exact alloc_below _ _
    have Cb:Hid (Q5 W3 w3.heap.size b0 b1 b2 b3 b4 b5 b6 b7 b8 b9 bA):=ZH (by rw [hW3];exact Q5.new ..);have Tb:=ZH (term_later hbb.out bW3);have HB3:=ZH (hb3.trans (bW3.mono hb3.size));have Ca:=ZH (Ca2.out.later bW3);have Ta:=ZH (term_later Ta2.out bW3);have HW3:=ZH hW3;clear hW3 bW3 hb3 Ca2 Ta2 hbb HB2;cases h5:(ca==0) with
    | false=>
     have h5b:(ca !=0)=true:=by unfold bne;rw [h5];rfl
     cases h6:(cb==0) with
     | false=>
      have h6b:(cb !=0)=true:=by unfold bne;rw [h6];rfl
      have N1:=none_put t X E W3 _ _ _ _ _ _ _ _ _ _ _ Ta.out;rw [<-HCA.out,h5] at N1;have N2:=fun W (hW:Below W3.heap.size W3 W)=> none_put t Y F W _ _ _ _ _ _ _ _ _ _ _ (term_later Tb.out hW);rw [<-HCB.out,h6] at N2;simp only [Bool.not_false,Bool.not_true] at N1 N2;obtain ⟨a0',a1',a2',a3',a4'⟩:=id Ca.out;rw [HW3.out] at a0' a1' a2' a3' a4';have HN2:=ZH N2;clear N2;go_wp2_with fail;rw [<-HW3.out];refine N1.mono ?_;clear N1 a0' a1' a2' a3' a4';rintro e' w5 ⟨rfl,k5⟩;obtain ⟨b0',b1',b2',b3',b4'⟩:=Cb.out.later k5;have N2:=HN2.out _ k5;have HB5:=ZH (HB3.out.trans (k5.mono HB3.out.size));clear k5;go_wp2_with fail;refine N2.mono ?_;clear N2 b0' b1' b2' b3' b4';rintro e' w6 ⟨rfl,k6⟩;have HB6:=ZH (HB5.out.trans (k6.mono HB5.out.size));clear k6;go_wp2_with (go_at_call 14;refine (HJ14.out _).mono ?_;rintro e' wA ⟨rfl,kA⟩);go_ret;exact ⟨rfl,((HKW.out _ HB6.out).later kA).2.2⟩
     | true=>
      have h6b:(cb !=0)=false:=by unfold bne;rw [h6];rfl
      have N1:=none_put t X E W3 _ _ _ _ _ _ _ _ _ _ _ Ta.out;rw [<-HCA.out,h5] at N1;have N2:=fun W (hW:Below W3.heap.size W3 W)=> none_put t Y F W _ _ _ _ _ _ _ _ _ _ _ (term_later Tb.out hW);rw [<-HCB.out,h6] at N2;simp only [Bool.not_false,Bool.not_true] at N1 N2;obtain ⟨a0',a1',a2',a3',a4'⟩:=id Ca.out;rw [HW3.out] at a0' a1' a2' a3' a4';have HN2:=ZH N2;clear N2;go_wp2_with fail;rw [<-HW3.out];refine N1.mono ?_;clear N1 a0' a1' a2' a3' a4';rintro e' w5 ⟨rfl,k5⟩;obtain ⟨b0',b1',b2',b3',b4'⟩:=Cb.out.later k5;have N2:=HN2.out _ k5;have HB5:=ZH (HB3.out.trans (k5.mono HB3.out.size));clear k5;go_wp2_with fail;refine N2.mono ?_;clear N2 b0' b1' b2' b3' b4';rintro e' w6 ⟨rfl,k6⟩;have HB6:=ZH (HB5.out.trans (k6.mono HB5.out.size));clear k6;go_wp2_with (go_at_call 14;refine (HJ14.out _).mono ?_;rintro e' wA ⟨rfl,kA⟩);go_ret;exact ⟨rfl,((HKW.out _ HB6.out).later kA).2.2⟩
    | true=>
     have h5b:(ca !=0)=false:=by unfold bne;rw [h5];rfl
     cases h6:(cb==0) with
     | false=>
      have h6b:(cb !=0)=true:=by unfold bne;rw [h6];rfl
      have N1:=none_put t X E W3 _ _ _ _ _ _ _ _ _ _ _ Ta.out;rw [<-HCA.out,h5] at N1;have N2:=fun W (hW:Below W3.heap.size W3 W)=> none_put t Y F W _ _ _ _ _ _ _ _ _ _ _ (term_later Tb.out hW);rw [<-HCB.out,h6] at N2;simp only [Bool.not_false,Bool.not_true] at N1 N2;obtain ⟨a0',a1',a2',a3',a4'⟩:=id Ca.out;rw [HW3.out] at a0' a1' a2' a3' a4';have HN2:=ZH N2;clear N2;go_wp2_with fail;rw [<-HW3.out];refine N1.mono ?_;clear N1 a0' a1' a2' a3' a4';rintro e' w5 ⟨rfl,k5⟩;obtain ⟨b0',b1',b2',b3',b4'⟩:=Cb.out.later k5;have N2:=HN2.out _ k5;have HB5:=ZH (HB3.out.trans (k5.mono HB3.out.size));clear k5;go_wp2_with fail;refine N2.mono ?_;clear N2 b0' b1' b2' b3' b4';rintro e' w6 ⟨rfl,k6⟩;have HB6:=ZH (HB5.out.trans (k6.mono HB5.out.size));clear k6;go_wp2_with (go_at_call 14;refine (HJ14.out _).mono ?_;rintro e' wA ⟨rfl,kA⟩);go_ret;exact ⟨rfl,((HKW.out _ HB6.out).later kA).2.2⟩
     | true=>
      have h6b:(cb !=0)=false:=by unfold bne;rw [h6];rfl
      obtain ⟨cc,hcc⟩:∃c,c=putCode (putL t X E) Y F:=⟨_,rfl⟩;have HCC:=ZH hcc;have KW:=HKW.out _ HB3.out;have K33c:=put_out (putL t X E) Y F hYz W3.heap.size W3 W3 _ _ (zh.refl _ _) (ZL _) Ta.out (zy.keep KW.1 KW.2.1 _ _ HFA.out);rw [<-hcc] at K33c;obtain ⟨a0',a1',a2',a3',a4'⟩:=id Ca.out;obtain ⟨q0,q1,q2,q3,q4,q5,q6,q7,q8,q9⟩:=HCP.out _ HB3.out;rw [HW3.out] at a0' a1' a2' a3' a4' q0 q1 q2 q3 q4 q5 q6 q7 q8 q9;clear hcc KW;go_wp2_with fail;rw [<-HW3.out];refine K33c.mono ?_;clear K33c a0' a1' a2' a3' a4' q0 q1 q2 q3 q4 q5 q6 q7 q8 q9;rintro e' w4 ⟨c0,c1,c2,c3,c4,c5,c6,c7,c8,c9,cA,rfl,hc,k4⟩;have hb4:=HB3.out.trans (k4.mono HB3.out.size);have Cb2:=ZH (Cb.out.later k4);have Tb2:=ZH (term_later Tb.out k4);clear k4 Cb Tb Ca Ta;obtain ⟨W4,hW4⟩:∃X,X=w4.alloc (.cells #[.int .i64 c0, .string c1, .slice c2 c3 c4, .slice c5 c6 c7, .slice c8 c9 cA] 33):=⟨_,rfl⟩;have bW4:Below w4.heap.size w4 W4:=by rw [hW4];exact alloc_below _ _
      have Cc:Hid (Q5 W4 w4.heap.size c0 c1 c2 c3 c4 c5 c6 c7 c8 c9 cA):=ZH (by rw [hW4];exact Q5.new ..);have Tc:=ZH (term_later hc.out bW4);have HB4:=ZH (hb4.trans (bW4.mono hb4.size));have Cb:=ZH (Cb2.out.later bW4);have Tb:=ZH (term_later Tb2.out bW4);have HW4:=ZH hW4;clear hW4 bW4 hb4 Cb2 Tb2 hc HB3;obtain ⟨G,hG⟩:∃g,g=expL [(Y,F)] E:=⟨_,rfl⟩;obtain ⟨cd,hcd⟩:∃c,c=putCode (putL t Y F) X G:=⟨_,rfl⟩;have HG:=ZH hG;have HCD:=ZH hcd;obtain ⟨S,hS⟩:∃S,S=SkB W4:=⟨_,rfl⟩
      have hrd:∀W k,S k W->Q5 W w3.heap.size b0 b1 b2 b3 b4 b5 b6 b7 b8 b9 bA/\Q10 W (w.heap.size + 1) X Y e0 e1 e2 e3 e4 e5 f0 f1 f2 f3 f4 f5:=fun W k h=> by
       rw [hS] at h;exact ⟨Cb.out.later h.1,HCP.out _ (HB4.out.trans (h.1.mono HB4.out.size))⟩
      have H38:Hid (∀W k,S k W->Calls Tryz.prog 38 #[.agg #[.int .i64 e0, .int .i64 e1, .string e2, .slice e3 e4 e5], .string Y, .agg #[.int .i64 f0, .int .i64 f1, .string f2, .slice f3 f4 f5]] W fun e w'=> ∃(g0 g1:Int) (g2:ByteArray) (g3:Option Addr) (g4 g5:Nat),e= .returned (.agg #[.int .i64 g0, .int .i64 g1, .string g2, .slice g3 g4 g5])/\Hid (zy w'.heap.size w' [.int .i64 g0, .int .i64 g1, .string g2, .slice g3 g4 g5] G)/\S k w'):=ZH fun W k h=> by
       rw [hS] at h ⊢;have KW:=HKW.out _ (HB4.out.trans (h.1.mono HB4.out.size));have q:=putExp_38 E F Y hYz (xg (qI.2 HFE.out)) (xg (qI.2 HFF.out)) w.heap.size w W _ _ KW.1 KW.2.1 HE.out HFA.out;refine q.mono ?_;rintro e w' ⟨rs,rfl,h1,h2⟩;have h3:=zy.keep (q9 _ _ _) (ZL _) _ _ h1;rw [<-HG.out] at h3;obtain ⟨g0,g1,g2,g3,g4,g5,rfl⟩:=qG h3;exact ⟨g0,g1,g2,g3,g4,g5,rfl,ZH h3,h.mono h2⟩
      have H33:Hid (∀W k (g0 g1:Int) (g2:ByteArray) (g3:Option Addr) (g4 g5:Nat),S k W->Hid (zy W.heap.size W [.int .i64 g0, .int .i64 g1, .string g2, .slice g3 g4 g5] G)->Calls Tryz.prog 33 #[.agg #[.int .i64 b0, .string b1, .slice b2 b3 b4, .slice b5 b6 b7, .slice b8 b9 bA], .string X, .agg #[.int .i64 g0, .int .i64 g1, .string g2, .slice g3 g4 g5]] W fun e w'=> ∃(d0:Int) (d1:ByteArray) (d2:Option Addr) (d3 d4:Nat) (d5:Option Addr) (d6 d7:Nat) (d8:Option Addr) (d9 dA:Nat),e= .returned (.tuple #[.agg #[.int .i64 d0, .string d1, .slice d2 d3 d4, .slice d5 d6 d7, .slice d8 d9 dA], .int .i64 cd])/\Hid (Dv k w' [.int .i64 d0, .string d1, .slice d2 d3 d4, .slice d5 d6 d7, .slice d8 d9 dA] (putL (putL t Y F) X G))/\S k w'/\
        (∀j,k=some j->w'.cell? ⟨j,0,none⟩=some (.int .i64 0))/\(∀j,k=some j->w'.cell? ⟨j,1,none⟩=some (.string ⟨#[]⟩))/\(∀j,k=some j->w'.cell? ⟨j,2,none⟩=some (.slice none 0 0))/\(∀j,k=some j->w'.cell? ⟨j,3,none⟩=some (.slice none 0 0))/\(∀j,k=some j->w'.cell? ⟨j,4,none⟩=some (.slice none 0 0))/\(∀j,k=some j->∀o,w'.frozen? ⟨j,o,none⟩=false)):=ZH fun W k g0 g1 g2 g3 g4 g5 h hg=> by
       rw [hS] at h ⊢;refine (put_outB (putL t Y F) X G hXz W.heap.size W W _ _ (zh.refl _ _) (ZL _) (term_later Tb.out h.1) hg.out).mono ?_;rintro e w' ⟨d0,d1,d2,d3,d4,d5,d6,d7,d8,d9,dA,rfl,h1,h2⟩;rw [<-HCD.out];have h5:=h.mono h2;have hz:=fun j e=> (h5.2 j e).2.cells;refine ⟨d0,d1,d2,d3,d4,d5,d6,d7,d8,d9,dA,rfl,ZH ⟨_,fun b o v hv=> ?_,h1.out⟩,h5,fun j e=> (hz j e).1,fun j e=> (hz j e).2.1,fun j e=> (hz j e).2.2.1,fun j e=> (hz j e).2.2.2.1,fun j e=> (hz j e).2.2.2.2.1,fun j e=> (hz j e).2.2.2.2.2⟩;rw [yT] at hv;by_cases hlt:b < W.heap.size
       ·rw [if_pos hlt] at hv;cases hv
       ·rw [if_neg hlt] at hv
        exact ⟨fun e=> by have:=qS (h.2 b e).2;omega,hv⟩
      have hSa:∀W k n,S k W->n=W.heap.size->S (some n) (W.alloc zq33):=fun W k n h e=> by rw [hS] at h ⊢;rw [e];exact h.alloc
      have hSz:∀W j,S (some j) W->qr W j:=fun W j h=> by rw [hS] at h;exact (h.2 j rfl).2
      have hne:∀W k,S k W->(¬w3.heap.size=W.heap.size)/\(¬W.heap.size=w3.heap.size)/\(¬w.heap.size + 1=W.heap.size)/\¬W.heap.size=w.heap.size + 1:=fun W k h=> by
       obtain ⟨h1,h2⟩:=hrd W k h;have:=zD h1.1;have:=zD h2.1;exact ⟨fun e=> by omega,fun e=> by omega,fun e=> by omega,fun e=> by omega⟩
      have hGa:∀(W:World) (gs:List Value),zy W.heap.size W gs G->zy (W.alloc zq33).heap.size (W.alloc zq33) gs G:=fun W gs h=> zy.keep (Below.keptC (alloc_below _ _)) (alloc_below _ _).size _ _ h;have g1:S none W4.drew:=by rw [hS];exact ⟨(ZF _ _).drew,fun _ h=> by cases h⟩
      have g1a:S (some W4.heap.size) (W4.alloc zq33).drew:=by
       rw [hS]
       exact ⟨(ZQ W4 _).drew,fun j hj=> by
        obtain rfl:=ZJ hj;exact ⟨ZL _,ZN W4 _⟩⟩
      have HS:=ZH hS;clear hG hcd hS;obtain ⟨⟨b0',b1',b2',b3',b4'⟩,⟨q0,q1,q2,q3,q4,q5,q6,q7,q8,q9⟩⟩:=hrd _ _ g1;obtain ⟨⟨c0',c1',c2',c3',c4'⟩,⟨r0,r1,r2,r3,r4,r5,r6,r7,r8,r9⟩⟩:=hrd _ _ g1a;obtain ⟨n1,n2,n3,n4⟩:(¬w3.heap.size=W4.heap.size)/\(¬W4.heap.size=w3.heap.size)/\(¬w.heap.size + 1=W4.heap.size)/\¬W4.heap.size=w.heap.size + 1:=hne W4.drew _ g1;obtain ⟨y0,y1,y2,y3,y4,yf⟩:=qr.cells (hSz _ _ g1a);go_upto_region 8 with fail;rw [<-HW4.out]
      go_region_held3 (fun W=> W.cell? ⟨w3.heap.size,0,none⟩=some (.int .i64 b0)/\W.cell? ⟨w3.heap.size,1,none⟩=some (.string b1)/\W.cell? ⟨w3.heap.size,2,none⟩=some (.slice b2 b3 b4)/\W.cell? ⟨w3.heap.size,3,none⟩=some (.slice b5 b6 b7)/\W.cell? ⟨w3.heap.size,4,none⟩=some (.slice b8 b9 bA)/\W.cell? ⟨w.heap.size + 1,0,none⟩=some (.string X)/\W.cell? ⟨w.heap.size + 1,1,none⟩=some (.string Y)/\W.cell? ⟨w.heap.size + 1,2,none⟩=some (.int .i64 e0)/\W.cell? ⟨w.heap.size + 1,3,none⟩=some (.int .i64 e1)/\W.cell? ⟨w.heap.size + 1,4,none⟩=some (.string e2)/\W.cell? ⟨w.heap.size + 1,5,none⟩=some (.slice e3 e4 e5)/\W.cell? ⟨w.heap.size + 1,6,none⟩=some (.int .i64 f0)/\W.cell? ⟨w.heap.size + 1,7,none⟩=some (.int .i64 f1)/\W.cell? ⟨w.heap.size + 1,8,none⟩=some (.string f2)/\W.cell? ⟨w.heap.size + 1,9,none⟩=some (.slice f3 f4 f5)) (go_keep)
       (first
         | (go_at_call 38;refine (H38.out _ _ (by assumption)).mono ?_;rintro e' x5 ⟨g0,g1',g2,g3,g4,g5,rfl,hg,gs5⟩;obtain ⟨⟨s0',s1',s2',s3',s4'⟩,⟨u0,u1,u2,u3,u4,u5,u6,u7,u8,u9⟩⟩:=hrd x5 _ gs5;obtain ⟨m1,m2,m3,m4⟩:=hne x5 _ gs5;have gs5a:=hSa _ _ x5.heap.size gs5 rfl;obtain ⟨⟨v0',v1',v2',v3',v4'⟩,⟨i0,i1,i2,i3,i4,i5,i6,i7,i8,i9⟩⟩:=hrd _ _ gs5a;have hga:=ZH (hGa _ _ hg.out))
         | (go_at_call 33;refine (H33.out _ _ _ _ _ _ _ _ (by assumption) (by assumption)).mono ?_;rintro e' x6 ⟨d0,d1,d2,d3,d4,d5,d6,d7,d8,d9,dA,rfl,hd,gs6,z0,z1,z2,z3,z4,zf⟩;obtain ⟨⟨s0',s1',s2',s3',s4'⟩,⟨u0,u1,u2,u3,u4,u5,u6,u7,u8,u9⟩⟩:=hrd x6 _ gs6;simp only [reduceCtorEq,false_imp_iff,implies_true,Option.some.injEq,forall_eq'] at z0 z1 z2 z3 z4 zf))
      all_goals
       first
       | (obtain ⟨W5,hW5,F5⟩:∃W5,(x6.alloc (.cells #[.int .i64 d0, .string d1, .slice d2 d3 d4, .slice d5 d6 d7, .slice d8 d9 dA] 33))=W5/\FinB W4 (putL (putL t Y F) X G) [.int .i64 d0, .string d1, .slice d2 d3 d4, .slice d5 d6 d7, .slice d8 d9 dA] x6.heap.size W5:=⟨_,rfl,finB_new (by rw [HS.out] at gs6;exact gs6) hd.out⟩;rw [hW5];clear hW5;obtain ⟨kb,hkb⟩:∃k,k=x6.heap.size:=⟨_,rfl⟩;rw [<-hkb] at F5 ⊢;clear hkb)
       | (obtain ⟨W5,hW5,F5⟩:∃W5,(((((x6.setCell ⟨W4.heap.size,0,none⟩ (.int .i64 d0)).setCell ⟨W4.heap.size,1,none⟩ (.string d1)).setCell ⟨W4.heap.size,2,none⟩ (.slice d2 d3 d4)).setCell ⟨W4.heap.size,3,none⟩ (.slice d5 d6 d7)).setCell ⟨W4.heap.size,4,none⟩ (.slice d8 d9 dA))=W5/\FinB W4 (putL (putL t Y F) X G) [.int .i64 d0, .string d1, .slice d2 d3 d4, .slice d5 d6 d7, .slice d8 d9 dA] W4.heap.size W5:=⟨_,rfl,finB_old (by rw [HS.out] at gs6;exact gs6) hd.out⟩;rw [hW5];clear hW5;obtain ⟨kb,hkb⟩:∃k,k=W4.heap.size:=⟨_,rfl⟩;rw [<-hkb] at F5 ⊢;clear hkb)
       | (obtain ⟨W5,hW5,F5⟩:∃W5,(((((x6.setCell ⟨x5.heap.size,0,none⟩ (.int .i64 d0)).setCell ⟨x5.heap.size,1,none⟩ (.string d1)).setCell ⟨x5.heap.size,2,none⟩ (.slice d2 d3 d4)).setCell ⟨x5.heap.size,3,none⟩ (.slice d5 d6 d7)).setCell ⟨x5.heap.size,4,none⟩ (.slice d8 d9 dA))=W5/\FinB W4 (putL (putL t Y F) X G) [.int .i64 d0, .string d1, .slice d2 d3 d4, .slice d5 d6 d7, .slice d8 d9 dA] x5.heap.size W5:=⟨_,rfl,finB_old (by rw [HS.out] at gs6;exact gs6) hd.out⟩;rw [hW5];clear hW5;obtain ⟨kb,hkb⟩:∃k,k=x5.heap.size:=⟨_,rfl⟩;rw [<-hkb] at F5 ⊢;clear hkb)
      all_goals
       have HF5:=ZH F5;have HB5:=ZH (HB4.out.trans (F5.1.mono HB4.out.size));clear F5;cases h7:(cc==0) with
       | false=>
        have h7b:(cc !=0)=true:=by unfold bne;rw [h7];rfl
        go_wp2_with (go_at_call 14;refine (HJ14.out _).mono ?_;rintro e' wA ⟨rfl,kA⟩);go_ret;exact ⟨rfl,((HKW.out _ HB5.out).later kA).2.2⟩
       | true=>
        have h7b:(cc !=0)=false:=by unfold bne;rw [h7];rfl
        cases h8:(cd==0) with
        | false=>
         have h8b:(cd !=0)=true:=by unfold bne;rw [h8];rfl
         go_wp2_with (go_at_call 14;refine (HJ14.out _).mono ?_;rintro e' wA ⟨rfl,kA⟩);go_ret;exact ⟨rfl,((HKW.out _ HB5.out).later kA).2.2⟩
        | true=>
         have h8b:(cd !=0)=false:=by unfold bne;rw [h8];rfl
         have K39:=alike_yes (putL (putL t X E) Y F) (putL (putL t Y F) X G);have G1:=put_good (HCA.out.symm.trans (eq_of_beq h5));have G2:=put_good (HCB.out.symm.trans (eq_of_beq h6));have G3:=put_good (HCC.out.symm.trans (eq_of_beq h7));have G4:=put_good (HCD.out.symm.trans (eq_of_beq h8));obtain ⟨f1,-,f2,f3,u1,k1⟩:=G1;obtain ⟨-,-,f4,f5',u2,k2⟩:=G2;obtain ⟨-,-,-,f6,u3,k3⟩:=G3;obtain ⟨-,-,f7,f8,u4,k4⟩:=G4;have hGd:G=denE (putSg Y F) E:=by rw [HG.out];exact expL_put Y F E (xg f2)
         have hs:=substs_same f1 f2 f4 f7 HXY.out HHB.out.symm hGd k1 k2 k3 k4 f3 f5' f6 f8;obtain ⟨Uc,ec⟩:=(anewOf_facts f6).1;obtain ⟨Ud,ed⟩:=(anewOf_facts f8).1;have ha:anewOf (putL (putL t Y F) X G)=anewOf (putL (putL t X E) Y F):=congrArg Prod.fst (ZJ (ed.symm.trans (hs.symm.trans ec)));obtain ⟨p1,p2,p3⟩:=HF5.out;have K:=K39 f6 f8 ha W5.heap.size W5 W5 _ _ (zh.refl _ _) (ZL _) (term_later Tc.out p1) p3;obtain ⟨c0',c1',c2',c3',c4'⟩:=Cc.out.later p1;obtain ⟨d0',d1',d2',d3',d4',df⟩:=yd p2;clear K39 f1 f2 f3 f4 f5' f6 f7 f8 k1 k2 k3 k4 hGd hs ha ec ed p1 p2 p3;go_wp2_with fail;refine K.mono ?_;clear K c0' c1' c2' c3' c4' d0' d1' d2' d3' d4' df;rintro e' x7 ⟨rfl,k7⟩;have HB7:=ZH (HB5.out.trans (k7.mono HB5.out.size));clear k7;go_wp2_with (go_at_call 14;refine (HJ14.out _).mono ?_;rintro e' wA ⟨rfl,kA⟩);go_ret;exact ⟨rfl,((HKW.out _ HB7.out).later kA).2.2⟩
end Go.Proofs.YtjmlaeofjjhfmaaGreat
