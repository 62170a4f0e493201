/- Lemmas. -/
import Derived.Test.YtjmlaeofjjhfmaaGreatS08
import Derived.Test.YtjmlaeofjjhfmaaGreatS10
import Derived.Test.YtjmlaeofjjhfmaaGreatS18
set_option linter.unusedVariables false
set_option linter.unusedSimpArgs false
set_option maxRecDepth 10000
set_option maxHeartbeats 16000000
namespace Go.Proofs.YtjmlaeofjjhfmaaGreat
section
open Go.RowKit
def sz (ps:List Part):Nat:=(zM 0 ps).length
theorem qB (a b:List Part):sz (a ++ b)=sz a + sz b:=by unfold sz;rw [yX,List.length_append]
theorem zcf (p:Part):sz [p]=p.size:=by simp [sz,zM,Part.size]
theorem zaz {α:Type} (f:α->Part) (l:List α) (k:Nat) (h:k < l.length):sz ((l.take (k + 1)).map f)=sz ((l.take k).map f) + (f l[k]).size:=by
 rw [ZT h,List.map_append,qB];simp [zcf]
theorem j9 {α:Type} (f:α->Part) (l:List α) (k:Nat):sz ((l.take k).map f)<=sz (l.map f):=by
 conv=> rhs;rw [<-List.take_append_drop k l,List.map_append,qB]
 omega
theorem yV (p:Part):p.size=1 + sz p.parts:=zfw p 0
theorem yU {α:Type} (f:α->Part) {l:List α} {k:Nat} (h:k < l.length):(f l[k]).size<=sz (l.map f):=by
 have:=zaz f l k h;have:=j9 f l (k + 1);omega
def dec (L:Int) (s:Nat):Int:=if (s:Int)<=L then L - s else -1
theorem zbo (L:Int) (a b:Nat):dec (dec L a) b=dec L (a + b):=by unfold dec;split <;> split <;> split <;> omega
theorem zfz (L:Int) (h:0<=L) (s:Nat):dec (L - 1) s=dec L (1 + s):=by unfold dec;split <;> split <;> omega
theorem zbj (L:Int) (a b:Nat) (h:¬0<=dec L a) (hab:a<=b):dec L b=dec L a:=by
 unfold dec at h ⊢;by_cases h1:(a:Int)<=L
 ·rw [if_pos h1] at h;omega
 ·have h2:¬(b:Int)<=L:=by omega
  rw [if_neg h1,if_neg h2]
theorem zcb (L:Int) (h:-1<=L) (s:Nat):-1<=dec L s/\dec L s<=L:=by unfold dec;split <;> omega
def qY (lb:Nat) (w:World) (L:Int) (w':World):Prop:=
 KpC lb (lb + 1) w w'/\Below lb w w'/\w'.cell? ⟨lb,0,none⟩=some (.int .i64 L)/\w'.frozen? ⟨lb,0,none⟩=false
theorem qY.trans {lb:Nat} {w w1 w2:World} {L L':Int} (h:qY lb w L w1) (k:qY lb w1 L' w2):qY lb w L' w2:=⟨h.1.trans k.1,h.2.1.trans k.2.1,k.2.2⟩
def zkr (B:Nat) (u:World) (cs:List Value):Part->Prop
 | .proc t=> ze B u cs t
 | .exp t=> zy B u cs t
 | .def_ t=> zo B u cs t
def zis:Part->Nat
 | .proc _=> 58
 | .exp _=> 61
 | .def_ _=> 111
def zbq:Part->Int->Value
 | .proc _,L=> .bool (decide (0<=L))
 | _,_=> .tuple #[]
def zdh (s:Nat):Prop:=∀(p:Part),p.size<=s->∀(lb B:Nat) (u w:World) (cs:List Value) (L:Int),zh B u w->B<=lb->0<=L->L<=60->
 w.cell? ⟨lb,0,none⟩=some (.int .i64 L)->w.frozen? ⟨lb,0,none⟩=false->zkr B u cs p->
 Calls Tryz.prog (zis p) #[.agg cs.toArray, .pointer (some ⟨lb,0,none⟩)] w fun e w'=> e= .returned (zbq p (dec L p.size))/\qY lb w (dec L p.size) w'
theorem zkZ (s:Nat) (ih:zdh s) (op n:Int) (text:ByteArray) (kids:List Exp) (hs:(Part.exp (.mk op n text kids)).size<=s + 1) (lb B:Nat) (u w:World) (cs:List Value) (L:Int) (hu:zh B u w) (hBl:B<=lb) (hL0:0<=L) (hL1:L<=60)
  (hc:w.cell? ⟨lb,0,none⟩=some (.int .i64 L)) (hf:w.frozen? ⟨lb,0,none⟩=false) (hv:zy B u cs (.mk op n text kids)):
  Calls Tryz.prog 61 #[.agg cs.toArray, .pointer (some ⟨lb,0,none⟩)] w fun e w'=> e= .returned (zbq (.exp (.mk op n text kids)) (dec L (Part.exp (.mk op n text kids)).size))/\qY lb w (dec L (Part.exp (.mk op n text kids)).size) w':=by
 unfold zy at hv;obtain ⟨hz,_,rfl,⟨a0,p0,rfl,l0,h0⟩⟩:=hv;have hlb:=zD hc;have hss:=yV (Part.exp (.mk op n text kids));simp only [Part.parts,qB] at hss;obtain ⟨W1,hW1⟩:∃W1,W1=(w.setCell ⟨lb,0,none⟩ (.int .i64 (L - 1))).alloc (.cells #[.int .i64 op, .int .i64 n, .string text, .slice a0 kids.length p0] 36):=⟨_,rfl⟩;have zs:(w.setCell ⟨lb,0,none⟩ (.int .i64 (L - 1))).heap.size=w.heap.size:=by simp [World.setCell]
 have z1:W1.heap.size=w.heap.size + 1:=by rw [hW1];simp [World.setCell]
 have hc1':W1.cell? ⟨lb,0,none⟩=some (.int .i64 (L - 1)):=by rw [hW1,ZP _ _ _ (by rw [zs];exact hlb)];exact World.cell?_setCell_same' _ _ _ (by rw [hc];rfl)
 have hf1':W1.frozen? ⟨lb,0,none⟩=false:=by rw [hW1,World.frozen?_alloc_past _ _ _ (by rw [zs];exact hlb),World.frozen?_setCell];exact hf
 have hkW:KpC lb (lb + 1) w W1:=by
  rw [hW1];exact (KpC.setCell w _ _ (ZL _) (by simp)).trans (KpC.of_below ((ZF _ _).alloc (ZL _) _))
 have hbW:Below lb w W1:=by rw [hW1];exact ((ZF lb w).setCell (p:=⟨lb,0,none⟩) (ZL _) _).alloc (by rw [zs];omega) _
 have hS0':qY lb w (L - 1) W1:=⟨hkW,hbW,hc1',hf1'⟩;have hS0:qY lb W1 (L - 1) W1:=⟨KpC.refl _ _ _,ZF _ _,hc1',hf1'⟩
 have hbox0:W1.cell? ⟨w.heap.size,3,none⟩=some (.slice a0 kids.length p0):=by
  rw [hW1,ZA _ _ _ _ zs.symm];rfl
 have HW:=ZH hW1;clear hW1;go_enter Tryz.func61,Tryz.ntmps61;go_wp2_with fail;try rw [<-HW.out]
 clear hc hf zs;have HSS:=hss;clear hss
 go_loopw [4] (fun i wr=> ∃(k:Nat) (c:Int),k<=kids.length/\i= .int .i64 k/\Hid (c=dec (L - 1) (sz ((kids.take k).map .exp)))/\-1<=c/\c<=60/\qY lb W1 c wr) (fun i _=> kids.length - (intOf i).toNat)
 case atStart=> exact ⟨0,L - 1,by omega,rfl,ZH (by simp [sz,zM];unfold dec;split <;> omega),by omega,by omega,hS0⟩
 case round=>
  obtain ⟨k,c,hk',rfl,hcd,hc0,hc1,hS⟩:=hrel;have hSW:=hS;obtain ⟨hkp,hbl,hcell,hfr⟩:=hSW;have hbox:=hkp.2 _ _ _ (.inr (by omega)) hbox0;by_cases hgo:k < kids.length/\0<=c
  ·obtain ⟨hlt,hge⟩:=hgo
   rcases h0 with h00 | ⟨b,off,rfl,hb,hk⟩
   ·omega
   obtain ⟨cs,hcs,hexp⟩:=hk.get kids b off k hlt;have hexp':=hexp;have hsk:=zaz Part.exp kids k hlt;have hsm:=yU Part.exp hlt;obtain ⟨e0,he0⟩:∃e,e=kids[k]:=⟨_,rfl⟩;rw [<-he0] at hexp hexp' hsk hsm;have hih:=ih (.exp e0) (by omega) lb B u wr cs c (hu.trans ((hkW.trans hkp).keptC hBl)) hBl hge hc1 hcell hfr hexp';have HN:=ZH (show dec c (Part.exp e0).size=dec (L - 1) (sz ((kids.take (k + 1)).map .exp)) by rw [hcd.out,zbo,hsk]);have hbd:=zcb c hc0 (Part.exp e0).size;obtain ⟨c',hc'⟩:∃c',c'=dec c (Part.exp e0).size:=⟨_,rfl⟩;rw [<-hc'] at hih HN hbd;clear he0 hsk hsm hc' hexp';obtain ⟨o0,n0,t0,k0⟩:=e0;unfold zy at hexp;obtain ⟨_,_,rfl,x0,y0,rfl,_⟩:=hexp;obtain ⟨c0,c1,c2,c3⟩:=jd (fun j hj=> (hkW.trans hkp).2 _ _ _ (.inl (by omega)) (hu _ _ _ (by omega) (hcs j hj)));clear hcs hk;go_wp2_with (go_at_call 61;refine hih.mono ?_;clear hih;rintro e w2 ⟨rfl,hS2⟩);go_roundw
   case rel=> exact ⟨k + 1,c',by omega,by go_num,HN,by omega,by omega,hS.trans hS2⟩
   case measure=> simp [intOf];omega
  ·have hx:c=dec (L - 1) (sz (kids.map .exp)):=by
    have hle:=j9 Part.exp kids k;by_cases hlt:k < kids.length
    ·have hn:¬0<=c:=fun h=> hgo ⟨hlt,h⟩
     rw [hcd.out] at hn ⊢;exact (zbj _ _ _ hn (by omega)).symm
    ·have hkl:k=kids.length:=by omega
     rw [hcd.out,hkl,List.take_length]
   have HX:=ZH hx;clear hx hcd;have hway:k=kids.length∨(k < kids.length/\c < 0):=by omega
   clear hgo;have hfin:Hid (c=dec L (Part.exp (.mk op n text kids)).size):=ZH (by rw [HX.out,yV,zfz L hL0];simp [Part.parts,qB,Nat.add_assoc]);rcases hway with rfl | ⟨hlt,hneg⟩
   all_goals (
    go_wp2
    go_end0
    exact ⟨rfl,by rw [<-hfin.out];exact hS0'.trans hS⟩)
theorem zja (s:Nat) (ih:zdh s) (form:Int) (text:ByteArray) (joins:List Msg) (defs:List zg) (kids:List Term) (hs:(Part.def_ (.mk form text joins defs kids)).size<=s + 1) (lb B:Nat) (u w:World) (cs:List Value) (L:Int) (hu:zh B u w) (hBl:B<=lb) (hL0:0<=L) (hL1:L<=60)
  (hc:w.cell? ⟨lb,0,none⟩=some (.int .i64 L)) (hf:w.frozen? ⟨lb,0,none⟩=false) (hv:zo B u cs (.mk form text joins defs kids)):
  Calls Tryz.prog 111 #[.agg cs.toArray, .pointer (some ⟨lb,0,none⟩)] w fun e w'=> e= .returned (zbq (.def_ (.mk form text joins defs kids)) (dec L (Part.def_ (.mk form text joins defs kids)).size))/\qY lb w (dec L (Part.def_ (.mk form text joins defs kids)).size) w':=by
 unfold zo at hv;obtain ⟨hz,_,_,_,rfl,⟨aj,pj,rfl,lj,hj⟩,⟨a0,p0,rfl,l0,h0⟩,⟨a1,p1,rfl,l1,h1⟩⟩:=hv;have hlb:=zD hc;have hss:=yV (Part.def_ (.mk form text joins defs kids));simp only [Part.parts,qB] at hss;obtain ⟨W1,hW1⟩:∃W1,W1=(w.setCell ⟨lb,0,none⟩ (.int .i64 (L - 1))).alloc (.cells #[.int .i64 form, .string text, .slice aj joins.length pj, .slice a0 defs.length p0, .slice a1 kids.length p1] 130):=⟨_,rfl⟩;have zs:(w.setCell ⟨lb,0,none⟩ (.int .i64 (L - 1))).heap.size=w.heap.size:=by simp [World.setCell]
 have z1:W1.heap.size=w.heap.size + 1:=by rw [hW1];simp [World.setCell]
 have hc1':W1.cell? ⟨lb,0,none⟩=some (.int .i64 (L - 1)):=by rw [hW1,ZP _ _ _ (by rw [zs];exact hlb)];exact World.cell?_setCell_same' _ _ _ (by rw [hc];rfl)
 have hf1':W1.frozen? ⟨lb,0,none⟩=false:=by rw [hW1,World.frozen?_alloc_past _ _ _ (by rw [zs];exact hlb),World.frozen?_setCell];exact hf
 have hkW:KpC lb (lb + 1) w W1:=by
  rw [hW1];exact (KpC.setCell w _ _ (ZL _) (by simp)).trans (KpC.of_below ((ZF _ _).alloc (ZL _) _))
 have hbW:Below lb w W1:=by rw [hW1];exact ((ZF lb w).setCell (p:=⟨lb,0,none⟩) (ZL _) _).alloc (by rw [zs];omega) _
 have hS0':qY lb w (L - 1) W1:=⟨hkW,hbW,hc1',hf1'⟩;have hS0:qY lb W1 (L - 1) W1:=⟨KpC.refl _ _ _,ZF _ _,hc1',hf1'⟩
 have hbox0:W1.cell? ⟨w.heap.size,3,none⟩=some (.slice a0 defs.length p0):=by
  rw [hW1,ZA _ _ _ _ zs.symm];rfl
 have hbox1:W1.cell? ⟨w.heap.size,4,none⟩=some (.slice a1 kids.length p1):=by
  rw [hW1,ZA _ _ _ _ zs.symm];rfl
 have HW:=ZH hW1;clear hW1;go_enter Tryz.func111,Tryz.ntmps111;go_wp2_with fail;try rw [<-HW.out]
 clear hc hf zs;have HSS:=hss;clear hss
 go_loopw [4] (fun i wr=> ∃(k:Nat) (c:Int),k<=defs.length/\i= .int .i64 k/\Hid (c=dec (L - 1) (sz ((defs.take k).map .def_)))/\-1<=c/\c<=60/\qY lb W1 c wr) (fun i _=> defs.length - (intOf i).toNat)
 case atStart=> exact ⟨0,L - 1,by omega,rfl,ZH (by simp [sz,zM];unfold dec;split <;> omega),by omega,by omega,hS0⟩
 case round=>
  obtain ⟨k,c,hk',rfl,hcd,hc0,hc1,hS⟩:=hrel;have hSW:=hS;obtain ⟨hkp,hbl,hcell,hfr⟩:=hSW;have hbox:=hkp.2 _ _ _ (.inr (by omega)) hbox0;by_cases hgo:k < defs.length/\0<=c
  ·obtain ⟨hlt,hge⟩:=hgo
   rcases h0 with h00 | ⟨b,off,rfl,hb,hk⟩
   ·omega
   obtain ⟨cs,hcs,hexp⟩:=hk.get defs b off k hlt;have hexp':=hexp;have hsk:=zaz Part.def_ defs k hlt;have hsm:=yU Part.def_ hlt;obtain ⟨e0,he0⟩:∃e,e=defs[k]:=⟨_,rfl⟩;rw [<-he0] at hexp hexp' hsk hsm;have hih:=ih (.def_ e0) (by omega) lb B u wr cs c (hu.trans ((hkW.trans hkp).keptC hBl)) hBl hge hc1 hcell hfr hexp';have HN:=ZH (show dec c (Part.def_ e0).size=dec (L - 1) (sz ((defs.take (k + 1)).map .def_)) by rw [hcd.out,zbo,hsk]);have hbd:=zcb c hc0 (Part.def_ e0).size;obtain ⟨c',hc'⟩:∃c',c'=dec c (Part.def_ e0).size:=⟨_,rfl⟩;rw [<-hc'] at hih HN hbd;clear he0 hsk hsm hc' hexp';obtain ⟨f0,t0,j0,d0,k0⟩:=e0;unfold zo at hexp;obtain ⟨_,_,_,_,rfl,⟨x0,y0,rfl,_⟩,⟨x1,y1,rfl,_⟩,⟨x2,y2,rfl,_⟩⟩:=hexp;obtain ⟨c0,c1,c2,c3,c4⟩:=zK (fun j hj=> (hkW.trans hkp).2 _ _ _ (.inl (by omega)) (hu _ _ _ (by omega) (hcs j hj)));clear hcs hk;go_wp2_with (go_at_call 111;refine hih.mono ?_;clear hih;rintro e w2 ⟨rfl,hS2⟩);go_roundw
   case rel=> exact ⟨k + 1,c',by omega,by go_num,HN,by omega,by omega,hS.trans hS2⟩
   case measure=> simp [intOf];omega
  ·have hx:c=dec (L - 1) (sz (defs.map .def_)):=by
    have hle:=j9 Part.def_ defs k;by_cases hlt:k < defs.length
    ·have hn:¬0<=c:=fun h=> hgo ⟨hlt,h⟩
     rw [hcd.out] at hn ⊢;exact (zbj _ _ _ hn (by omega)).symm
    ·have hkl:k=defs.length:=by omega
     rw [hcd.out,hkl,List.take_length]
   have HX:=ZH hx;clear hx hcd;have hway:k=defs.length∨(k < defs.length/\c < 0):=by omega
   clear hgo;rcases hway with rfl | ⟨hlt,hneg⟩
   all_goals (
    go_wp2
    go_loopw [5] (fun i wr=> ∃(k:Nat) (c:Int),k<=kids.length/\i= .int .i64 k/\Hid (c=dec (L - 1) (sz (defs.map .def_) + sz ((kids.take k).map .proc)))/\-1<=c/\c<=60/\qY lb W1 c wr) (fun i _=> kids.length - (intOf i).toNat)
    case atStart=> exact ⟨0,c,by omega,rfl,ZH (by rw [HX.out];simp [sz,zM]),by omega,by omega,hS⟩
    case round=>
     obtain ⟨k,c,hk',rfl,hcd,hc0,hc1,hS⟩:=hrel;have hSW:=hS;obtain ⟨hkp,hbl,hcell,hfr⟩:=hSW;have hbox:=hkp.2 _ _ _ (.inr (by omega)) hbox1;by_cases hgo:k < kids.length/\0<=c
     ·obtain ⟨hlt,hge⟩:=hgo
      rcases h1 with h00 | ⟨b,off,rfl,hb,hk⟩
      ·omega
      obtain ⟨cs,hcs,hexp⟩:=hk.get kids b off k hlt;have hexp':=hexp;have hsk:=zaz Part.proc kids k hlt;have hsm:=yU Part.proc hlt;obtain ⟨e0,he0⟩:∃e,e=kids[k]:=⟨_,rfl⟩;rw [<-he0] at hexp hexp' hsk hsm;have hih:=ih (.proc e0) (by omega) lb B u wr cs c (hu.trans ((hkW.trans hkp).keptC hBl)) hBl hge hc1 hcell hfr hexp';have HN:=ZH (show dec c (Part.proc e0).size=dec (L - 1) (sz (defs.map .def_) + sz ((kids.take (k + 1)).map .proc)) by rw [hcd.out,zbo,hsk,Nat.add_assoc]);have hbd:=zcb c hc0 (Part.proc e0).size;obtain ⟨c',hc'⟩:∃c',c'=dec c (Part.proc e0).size:=⟨_,rfl⟩;rw [<-hc'] at hih HN hbd;clear he0 hsk hsm hc' hexp';obtain ⟨o0,t0,g0,d0,k0⟩:=e0;unfold ze at hexp;obtain ⟨_,_,_,_,rfl,⟨x0,y0,rfl,_⟩,⟨x1,y1,rfl,_⟩,⟨x2,y2,rfl,_⟩⟩:=hexp;obtain ⟨c0,c1,c2,c3,c4⟩:=zK (fun j hj=> (hkW.trans hkp).2 _ _ _ (.inl (by omega)) (hu _ _ _ (by omega) (hcs j hj)));clear hcs hk;go_wp2_with (go_at_call 58;refine hih.mono ?_;clear hih;rintro e w2 ⟨rfl,hS2⟩);go_roundw
      case rel=> exact ⟨k + 1,c',by omega,by go_num,HN,by omega,by omega,hS.trans hS2⟩
      case measure=> simp [intOf];omega
     ·have hx:c=dec (L - 1) (sz (defs.map .def_) + sz (kids.map .proc)):=by
       have hle:=j9 Part.proc kids k;by_cases hlt:k < kids.length
       ·have hn:¬0<=c:=fun h=> hgo ⟨hlt,h⟩
        rw [hcd.out] at hn ⊢;exact (zbj _ _ _ hn (by omega)).symm
       ·have hkl:k=kids.length:=by omega
        rw [hcd.out,hkl,List.take_length]
      have HX:=ZH hx;clear hx hcd;have hway:k=kids.length∨(k < kids.length/\c < 0):=by omega
      clear hgo;have hfin:Hid (c=dec L (Part.def_ (.mk form text joins defs kids)).size):=ZH (by rw [HX.out,yV,zfz L hL0];simp [Part.parts,qB,Nat.add_assoc]);rcases hway with rfl | ⟨hlt,hneg⟩
      all_goals (
       go_wp2
       go_end0
       exact ⟨rfl,by rw [<-hfin.out];exact hS0'.trans hS⟩))
theorem ziK (s:Nat) (ih:zdh s) (op:Int) (text:ByteArray) (args:List Exp) (defs:List zg) (kids:List Term) (hs:(Part.proc (.mk op text args defs kids)).size<=s + 1) (lb B:Nat) (u w:World) (cs:List Value) (L:Int) (hu:zh B u w) (hBl:B<=lb) (hL0:0<=L) (hL1:L<=60)
  (hc:w.cell? ⟨lb,0,none⟩=some (.int .i64 L)) (hf:w.frozen? ⟨lb,0,none⟩=false) (hv:ze B u cs (.mk op text args defs kids)):
  Calls Tryz.prog 58 #[.agg cs.toArray, .pointer (some ⟨lb,0,none⟩)] w fun e w'=> e= .returned (zbq (.proc (.mk op text args defs kids)) (dec L (Part.proc (.mk op text args defs kids)).size))/\qY lb w (dec L (Part.proc (.mk op text args defs kids)).size) w':=by
 unfold ze at hv;obtain ⟨hz,_,_,_,rfl,⟨a0,p0,rfl,l0,h0⟩,⟨a1,p1,rfl,l1,h1⟩,⟨a2,p2,rfl,l2,h2⟩⟩:=hv;have hlb:=zD hc;have hss:=yV (Part.proc (.mk op text args defs kids));simp only [Part.parts,qB] at hss;obtain ⟨W1,hW1⟩:∃W1,W1=(w.setCell ⟨lb,0,none⟩ (.int .i64 (L - 1))).alloc (.cells #[.int .i64 op, .string text, .slice a0 args.length p0, .slice a1 defs.length p1, .slice a2 kids.length p2] 33):=⟨_,rfl⟩;have zs:(w.setCell ⟨lb,0,none⟩ (.int .i64 (L - 1))).heap.size=w.heap.size:=by simp [World.setCell]
 have z1:W1.heap.size=w.heap.size + 1:=by rw [hW1];simp [World.setCell]
 have hc1':W1.cell? ⟨lb,0,none⟩=some (.int .i64 (L - 1)):=by rw [hW1,ZP _ _ _ (by rw [zs];exact hlb)];exact World.cell?_setCell_same' _ _ _ (by rw [hc];rfl)
 have hf1':W1.frozen? ⟨lb,0,none⟩=false:=by rw [hW1,World.frozen?_alloc_past _ _ _ (by rw [zs];exact hlb),World.frozen?_setCell];exact hf
 have hkW:KpC lb (lb + 1) w W1:=by
  rw [hW1];exact (KpC.setCell w _ _ (ZL _) (by simp)).trans (KpC.of_below ((ZF _ _).alloc (ZL _) _))
 have hbW:Below lb w W1:=by rw [hW1];exact ((ZF lb w).setCell (p:=⟨lb,0,none⟩) (ZL _) _).alloc (by rw [zs];omega) _
 have hS0':qY lb w (L - 1) W1:=⟨hkW,hbW,hc1',hf1'⟩;have hS0:qY lb W1 (L - 1) W1:=⟨KpC.refl _ _ _,ZF _ _,hc1',hf1'⟩
 have hbox0:W1.cell? ⟨w.heap.size,2,none⟩=some (.slice a0 args.length p0):=by
  rw [hW1,ZA _ _ _ _ zs.symm];rfl
 have hbox1:W1.cell? ⟨w.heap.size,3,none⟩=some (.slice a1 defs.length p1):=by
  rw [hW1,ZA _ _ _ _ zs.symm];rfl
 have hbox2:W1.cell? ⟨w.heap.size,4,none⟩=some (.slice a2 kids.length p2):=by
  rw [hW1,ZA _ _ _ _ zs.symm];rfl
 have HW:=ZH hW1;clear hW1;go_enter Tryz.func58,Tryz.ntmps58;go_wp2_with fail;try rw [<-HW.out]
 clear hc hf zs;have HSS:=hss;clear hss
 go_loopw [5] (fun i wr=> ∃(k:Nat) (c:Int),k<=args.length/\i= .int .i64 k/\Hid (c=dec (L - 1) (sz ((args.take k).map .exp)))/\-1<=c/\c<=60/\qY lb W1 c wr) (fun i _=> args.length - (intOf i).toNat)
 case atStart=> exact ⟨0,L - 1,by omega,rfl,ZH (by simp [sz,zM];unfold dec;split <;> omega),by omega,by omega,hS0⟩
 case round=>
  obtain ⟨k,c,hk',rfl,hcd,hc0,hc1,hS⟩:=hrel;have hSW:=hS;obtain ⟨hkp,hbl,hcell,hfr⟩:=hSW;have hbox:=hkp.2 _ _ _ (.inr (by omega)) hbox0;by_cases hgo:k < args.length/\0<=c
  ·obtain ⟨hlt,hge⟩:=hgo
   rcases h0 with h00 | ⟨b,off,rfl,hb,hk⟩
   ·omega
   obtain ⟨cs,hcs,hexp⟩:=hk.get args b off k hlt;have hexp':=hexp;have hsk:=zaz Part.exp args k hlt;have hsm:=yU Part.exp hlt;obtain ⟨e0,he0⟩:∃e,e=args[k]:=⟨_,rfl⟩;rw [<-he0] at hexp hexp' hsk hsm;have hih:=ih (.exp e0) (by omega) lb B u wr cs c (hu.trans ((hkW.trans hkp).keptC hBl)) hBl hge hc1 hcell hfr hexp';have HN:=ZH (show dec c (Part.exp e0).size=dec (L - 1) (sz ((args.take (k + 1)).map .exp)) by rw [hcd.out,zbo,hsk]);have hbd:=zcb c hc0 (Part.exp e0).size;obtain ⟨c',hc'⟩:∃c',c'=dec c (Part.exp e0).size:=⟨_,rfl⟩;rw [<-hc'] at hih HN hbd;clear he0 hsk hsm hc' hexp';obtain ⟨o0,n0,t0,k0⟩:=e0;unfold zy at hexp;obtain ⟨_,_,rfl,x0,y0,rfl,_⟩:=hexp;obtain ⟨c0,c1,c2,c3⟩:=jd (fun j hj=> (hkW.trans hkp).2 _ _ _ (.inl (by omega)) (hu _ _ _ (by omega) (hcs j hj)));clear hcs hk;go_wp2_with (go_at_call 61;refine hih.mono ?_;clear hih;rintro e w2 ⟨rfl,hS2⟩);go_roundw
   case rel=> exact ⟨k + 1,c',by omega,by go_num,HN,by omega,by omega,hS.trans hS2⟩
   case measure=> simp [intOf];omega
  ·have hx:c=dec (L - 1) (sz (args.map .exp)):=by
    have hle:=j9 Part.exp args k;by_cases hlt:k < args.length
    ·have hn:¬0<=c:=fun h=> hgo ⟨hlt,h⟩
     rw [hcd.out] at hn ⊢;exact (zbj _ _ _ hn (by omega)).symm
    ·have hkl:k=args.length:=by omega
     rw [hcd.out,hkl,List.take_length]
   have HX:=ZH hx;clear hx hcd;have hway:k=args.length∨(k < args.length/\c < 0):=by omega
   clear hgo;rcases hway with rfl | ⟨hlt,hneg⟩
   all_goals (
    go_wp2
    go_loopw [6] (fun i wr=> ∃(k:Nat) (c:Int),k<=defs.length/\i= .int .i64 k/\Hid (c=dec (L - 1) (sz (args.map .exp) + sz ((defs.take k).map .def_)))/\-1<=c/\c<=60/\qY lb W1 c wr) (fun i _=> defs.length - (intOf i).toNat)
    case atStart=> exact ⟨0,c,by omega,rfl,ZH (by rw [HX.out];simp [sz,zM]),by omega,by omega,hS⟩
    case round=>
     obtain ⟨k,c,hk',rfl,hcd,hc0,hc1,hS⟩:=hrel;have hSW:=hS;obtain ⟨hkp,hbl,hcell,hfr⟩:=hSW;have hbox:=hkp.2 _ _ _ (.inr (by omega)) hbox1;by_cases hgo:k < defs.length/\0<=c
     ·obtain ⟨hlt,hge⟩:=hgo
      rcases h1 with h00 | ⟨b,off,rfl,hb,hk⟩
      ·omega
      obtain ⟨cs,hcs,hexp⟩:=hk.get defs b off k hlt;have hexp':=hexp;have hsk:=zaz Part.def_ defs k hlt;have hsm:=yU Part.def_ hlt;obtain ⟨e0,he0⟩:∃e,e=defs[k]:=⟨_,rfl⟩;rw [<-he0] at hexp hexp' hsk hsm;have hih:=ih (.def_ e0) (by omega) lb B u wr cs c (hu.trans ((hkW.trans hkp).keptC hBl)) hBl hge hc1 hcell hfr hexp';have HN:=ZH (show dec c (Part.def_ e0).size=dec (L - 1) (sz (args.map .exp) + sz ((defs.take (k + 1)).map .def_)) by rw [hcd.out,zbo,hsk,Nat.add_assoc]);have hbd:=zcb c hc0 (Part.def_ e0).size;obtain ⟨c',hc'⟩:∃c',c'=dec c (Part.def_ e0).size:=⟨_,rfl⟩;rw [<-hc'] at hih HN hbd;clear he0 hsk hsm hc' hexp';obtain ⟨f0,t0,j0,d0,k0⟩:=e0;unfold zo at hexp;obtain ⟨_,_,_,_,rfl,⟨x0,y0,rfl,_⟩,⟨x1,y1,rfl,_⟩,⟨x2,y2,rfl,_⟩⟩:=hexp;obtain ⟨c0,c1,c2,c3,c4⟩:=zK (fun j hj=> (hkW.trans hkp).2 _ _ _ (.inl (by omega)) (hu _ _ _ (by omega) (hcs j hj)));clear hcs hk;go_wp2_with (go_at_call 111;refine hih.mono ?_;clear hih;rintro e w2 ⟨rfl,hS2⟩);go_roundw
      case rel=> exact ⟨k + 1,c',by omega,by go_num,HN,by omega,by omega,hS.trans hS2⟩
      case measure=> simp [intOf];omega
     ·have hx:c=dec (L - 1) (sz (args.map .exp) + sz (defs.map .def_)):=by
       have hle:=j9 Part.def_ defs k;by_cases hlt:k < defs.length
       ·have hn:¬0<=c:=fun h=> hgo ⟨hlt,h⟩
        rw [hcd.out] at hn ⊢;exact (zbj _ _ _ hn (by omega)).symm
       ·have hkl:k=defs.length:=by omega
        rw [hcd.out,hkl,List.take_length]
      have HX:=ZH hx;clear hx hcd;have hway:k=defs.length∨(k < defs.length/\c < 0):=by omega
      clear hgo;rcases hway with rfl | ⟨hlt,hneg⟩
      all_goals (
       go_wp2
       go_loopw [7] (fun i wr=> ∃(k:Nat) (c:Int),k<=kids.length/\i= .int .i64 k/\Hid (c=dec (L - 1) (sz (args.map .exp) + sz (defs.map .def_) + sz ((kids.take k).map .proc)))/\-1<=c/\c<=60/\qY lb W1 c wr) (fun i _=> kids.length - (intOf i).toNat)
       case atStart=> exact ⟨0,c,by omega,rfl,ZH (by rw [HX.out];simp [sz,zM]),by omega,by omega,hS⟩
       case round=>
        obtain ⟨k,c,hk',rfl,hcd,hc0,hc1,hS⟩:=hrel;have hSW:=hS;obtain ⟨hkp,hbl,hcell,hfr⟩:=hSW;have hbox:=hkp.2 _ _ _ (.inr (by omega)) hbox2;by_cases hgo:k < kids.length/\0<=c
        ·obtain ⟨hlt,hge⟩:=hgo
         rcases h2 with h00 | ⟨b,off,rfl,hb,hk⟩
         ·omega
         obtain ⟨cs,hcs,hexp⟩:=hk.get kids b off k hlt;have hexp':=hexp;have hsk:=zaz Part.proc kids k hlt;have hsm:=yU Part.proc hlt;obtain ⟨e0,he0⟩:∃e,e=kids[k]:=⟨_,rfl⟩;rw [<-he0] at hexp hexp' hsk hsm;have hih:=ih (.proc e0) (by omega) lb B u wr cs c (hu.trans ((hkW.trans hkp).keptC hBl)) hBl hge hc1 hcell hfr hexp';have HN:=ZH (show dec c (Part.proc e0).size=dec (L - 1) (sz (args.map .exp) + sz (defs.map .def_) + sz ((kids.take (k + 1)).map .proc)) by rw [hcd.out,zbo,hsk,Nat.add_assoc]);have hbd:=zcb c hc0 (Part.proc e0).size;obtain ⟨c',hc'⟩:∃c',c'=dec c (Part.proc e0).size:=⟨_,rfl⟩;rw [<-hc'] at hih HN hbd;clear he0 hsk hsm hc' hexp';obtain ⟨o0,t0,g0,d0,k0⟩:=e0;unfold ze at hexp;obtain ⟨_,_,_,_,rfl,⟨x0,y0,rfl,_⟩,⟨x1,y1,rfl,_⟩,⟨x2,y2,rfl,_⟩⟩:=hexp;obtain ⟨c0,c1,c2,c3,c4⟩:=zK (fun j hj=> (hkW.trans hkp).2 _ _ _ (.inl (by omega)) (hu _ _ _ (by omega) (hcs j hj)));clear hcs hk;go_wp2_with (go_at_call 58;refine hih.mono ?_;clear hih;rintro e w2 ⟨rfl,hS2⟩);go_roundw
         case rel=> exact ⟨k + 1,c',by omega,by go_num,HN,by omega,by omega,hS.trans hS2⟩
         case measure=> simp [intOf];omega
        ·have hx:c=dec (L - 1) (sz (args.map .exp) + sz (defs.map .def_) + sz (kids.map .proc)):=by
          have hle:=j9 Part.proc kids k;by_cases hlt:k < kids.length
          ·have hn:¬0<=c:=fun h=> hgo ⟨hlt,h⟩
           rw [hcd.out] at hn ⊢;exact (zbj _ _ _ hn (by omega)).symm
          ·have hkl:k=kids.length:=by omega
           rw [hcd.out,hkl,List.take_length]
         have HX:=ZH hx;clear hx hcd;have hway:k=kids.length∨(k < kids.length/\c < 0):=by omega
         clear hgo;have hfin:Hid (c=dec L (Part.proc (.mk op text args defs kids)).size):=ZH (by rw [HX.out,yV,zfz L hL0];simp [Part.parts,qB,Nat.add_assoc]);rcases hway with rfl | ⟨hlt,hneg⟩
         all_goals (
          go_wp2;go_ret;refine ⟨(show _=Ending.returned (.bool (decide (0<=dec L _))) from qA ?_),by rw [<-hfin.out];exact hS0'.trans hS⟩;first | (rw [<-hfin.out];done) | (rw [<-hfin.out,Bool.eq_iff_iff];simp <;> omega))))
theorem zkH:∀s,zdh s:=by
 intro s
 induction s with
 | zero=> intro p hp;exact absurd (by rw [Part.size,zv];simp) (Nat.not_lt.2 hp)
 | succ s ih=>
  intro p hp lb B u w cs L hu hBl h0 h1 hc hf hv;cases p with
  | proc t=> obtain ⟨o,t,a,d,k⟩:=t;exact ziK s ih o t a d k hp lb B u w cs L hu hBl h0 h1 hc hf hv
  | exp t=> obtain ⟨o,n,t,k⟩:=t;exact zkZ s ih o n t k hp lb B u w cs L hu hBl h0 h1 hc hf hv
  | def_ t=> obtain ⟨f,t,j,d,k⟩:=t;exact zja s ih f t j d k hp lb B u w cs L hu hBl h0 h1 hc hf hv
def zh8 (s:Nat):Prop:=∀(t:Exp),(Part.exp t).size<=s->∀(B:Nat) (u w:World) (c1 c2:List Value),zh B u w->B<=w.heap.size->zy B u c1 t->zy B u c2 t->
 Calls Tryz.prog 89 #[.agg c1.toArray, .agg c2.toArray] w fun e w'=> e= .returned (.bool true)/\Below w.heap.size w w'
theorem zkl (s:Nat) (ih:zh8 s) (op n:Int) (text:ByteArray) (kids:List Exp) (hs:(Part.exp (.mk op n text kids)).size<=s + 1) (B:Nat) (u w:World) (c1 c2:List Value) (hu:zh B u w) (hBl:B<=w.heap.size)
  (hv1:zy B u c1 (.mk op n text kids)) (hv2:zy B u c2 (.mk op n text kids)):
  Calls Tryz.prog 89 #[.agg c1.toArray, .agg c2.toArray] w fun e w'=> e= .returned (.bool true)/\Below w.heap.size w w':=by
 unfold zy at hv1 hv2;obtain ⟨hz,_,rfl,⟨a0,p0,rfl,l0,h0⟩⟩:=hv1;obtain ⟨_,_,rfl,⟨a1,p1,rfl,l1,h1⟩⟩:=hv2;obtain ⟨W1,hW1⟩:∃W1,W1=(w.alloc (.cells #[.int .i64 op, .int .i64 n, .string text, .slice a0 kids.length p0] 36)).alloc (.cells #[.int .i64 op, .int .i64 n, .string text, .slice a1 kids.length p1] 36):=⟨_,rfl⟩;have z1:W1.heap.size=w.heap.size + 2:=by rw [hW1];simp
 have b1:Below w.heap.size w W1:=by rw [hW1];exact (ZQ w _).alloc (by simp) _
 have hrd:∀W,Below (w.heap.size + 2) W1 W->W.cell? ⟨w.heap.size,3,none⟩=some (.slice a0 kids.length p0)/\W.cell? ⟨w.heap.size + 1,3,none⟩=some (.slice a1 kids.length p1)/\zh B u W/\B<=W.heap.size/\Below w.heap.size w W:=by
  intro W h;have hb:=b1.trans (h.mono (by omega));refine ⟨(h.cell (p:=⟨w.heap.size,3,none⟩) (by simp)).trans ?_,(h.cell (p:=⟨w.heap.size + 1,3,none⟩) (by simp)).trans ?_,hu.trans ((Below.keptC hb).mono hBl),by have:=hb.size;omega,hb⟩
  ·rw [hW1,ZP _ _ _ (by simp),ZA _ _ _ _ rfl];rfl
  ·rw [hW1,ZA _ _ _ _ (by simp)];rfl
 have hkid:∀k,(h:k < kids.length)->(Part.exp kids[k]).size<=s:=fun k h=> by
  have:=qi (p:= .exp (.mk op n text kids)) (q:= .exp kids[k]) (by rw [Part.parts];exact List.mem_map.2 ⟨_,ZM h,rfl⟩);omega
 have HW:=ZH hW1;clear hW1 hs;go_enter Tryz.func89,Tryz.ntmps89;go_wp2;rw [<-HW.out]
 go_loopw [5] (fun i wr=> ∃(k:Nat),k<=kids.length/\i= .int .i64 k/\Below (w.heap.size + 2) W1 wr) (fun i _=> kids.length - (intOf i).toNat)
 case atStart=> exact ⟨0,by omega,rfl,ZF _ _⟩
 case round=>
  obtain ⟨k,hk,rfl,hb⟩:=hrel;obtain ⟨x0,x1,hu1,hB1,hbw⟩:=hrd wr hb;by_cases hlt:k < kids.length
  ·rcases h0 with h0 | ⟨b0,o0,rfl,hB0,hc0⟩
   ·rw [h0] at hlt;simp at hlt
   rcases h1 with h1 | ⟨b2,o2,rfl,hB2,hc2⟩
   ·rw [h1] at hlt;simp at hlt
   obtain ⟨d1,e1,f1⟩:=hc0.get kids b0 o0 k hlt;obtain ⟨d2,e2,f2⟩:=hc2.get kids b2 o2 k hlt;obtain ⟨g0,g1,g2,g3,g4,g5,rfl⟩:=qG f1;obtain ⟨i0,i1,i2,i3,i4,i5,rfl⟩:=qG f2;obtain ⟨y0,y1,hu2,hB2',_⟩:=hrd wr.drew hb.drew
   have hS:∀W,Below (w.heap.size + 2) W1 W->W.cell? ⟨w.heap.size,3,none⟩=some (.slice (some ⟨b0,o0,none⟩) kids.length p0)/\W.cell? ⟨w.heap.size + 1,3,none⟩=some (.slice (some ⟨b2,o2,none⟩) kids.length p1)/\
     (W.cell? ⟨b0,o0 + k * 4,none⟩=some (.int .i64 g0)/\W.cell? ⟨b0,o0 + k * 4 + 1,none⟩=some (.int .i64 g1)/\W.cell? ⟨b0,o0 + k * 4 + 2,none⟩=some (.string g2)/\W.cell? ⟨b0,o0 + k * 4 + 3,none⟩=some (.slice g3 g4 g5))/\
     W.cell? ⟨b2,o2 + k * 4,none⟩=some (.int .i64 i0)/\W.cell? ⟨b2,o2 + k * 4 + 1,none⟩=some (.int .i64 i1)/\W.cell? ⟨b2,o2 + k * 4 + 2,none⟩=some (.string i2)/\W.cell? ⟨b2,o2 + k * 4 + 3,none⟩=some (.slice i3 i4 i5):=fun W h=> by
    obtain ⟨y0,y1,hu2,_,_⟩:=hrd W h;exact ⟨y0,y1,jd (e1.keep hu2 hB0),jd (e2.keep hu2 hB2)⟩
   have hcall:=ih kids[k] (hkid k hlt) B u wr.drew _ _ hu2 hB2' f1 f2;have hbd:=hb.drew;obtain ⟨r0,r1,⟨r2,r3,r4,r5⟩,r6,r7,r8,r9⟩:=hS _ hbd;clear f1 f2 hc0 hc2;go_wp2
   go_region_held3 (fun W=> W.cell? ⟨w.heap.size,3,none⟩=some (.slice (some ⟨b0,o0,none⟩) kids.length p0)/\W.cell? ⟨w.heap.size + 1,3,none⟩=some (.slice (some ⟨b2,o2,none⟩) kids.length p1)/\
     W.cell? ⟨b0,o0 + k * 4,none⟩=some (.int .i64 g0)/\W.cell? ⟨b0,o0 + k * 4 + 1,none⟩=some (.int .i64 g1)/\W.cell? ⟨b0,o0 + k * 4 + 2,none⟩=some (.string g2)/\W.cell? ⟨b0,o0 + k * 4 + 3,none⟩=some (.slice g3 g4 g5)/\
     W.cell? ⟨b2,o2 + k * 4,none⟩=some (.int .i64 i0)/\W.cell? ⟨b2,o2 + k * 4 + 1,none⟩=some (.int .i64 i1)/\W.cell? ⟨b2,o2 + k * 4 + 2,none⟩=some (.string i2)/\W.cell? ⟨b2,o2 + k * 4 + 3,none⟩=some (.slice i3 i4 i5)) (go_keep)
    (first | (go_at_call 89;refine hcall.mono ?_;rintro e w2 ⟨rfl,hb2⟩;have hbd2:=hbd.trans (hb2.mono (by simp;have:=hb.size;omega));obtain ⟨s0,s1,⟨s2,s3,s4,s5⟩,s6,s7,s8,s9⟩:=hS w2 hbd2))
   all_goals go_wp2
   go_roundw
   case rel=> exact ⟨k + 1,by omega,by go_num,hbd2⟩
   case measure=> simp [intOf];omega
  ·obtain rfl:k=kids.length:=by omega
   go_wp2;go_ret;exact ⟨rfl,hbw⟩
theorem zk1:∀s,zh8 s:=by
 intro s
 induction s with
 | zero=> intro t ht;have:=yD (.exp t);omega
 | succ s ih=>
  intro t ht B u w c1 c2 hu hB h1 h2;obtain ⟨op,n,text,kids⟩:=t;exact zkl s ih op n text kids ht B u w c1 c2 hu hB h1 h2
end
end Go.Proofs.YtjmlaeofjjhfmaaGreat
