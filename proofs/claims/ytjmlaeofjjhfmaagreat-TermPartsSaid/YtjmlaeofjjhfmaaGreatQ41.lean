/- Lemmas. -/
import Derived.Test.YtjmlaeofjjhfmaaGreatQ40
import Derived.Test.YtjmlaeofjjhfmaaGreatQ36
import Derived.Test.YtjmlaeofjjhfmaaGreatQ28
import Derived.Test.YtjmlaeofjjhfmaaGreatQ32
set_option linter.unusedVariables false
set_option linter.unusedSimpArgs false
set_option maxRecDepth 10000
set_option maxHeartbeats 16000000
namespace Go.Proofs.YtjmlaeofjjhfmaaGreat
section
open Go.RowKit Go.Shelf Go.Maps
theorem Tryz.results44:Tryz.f44.results=#[.cell 2 33, .tmp 3]:=by kernel_rfl
def qm (l:List Term):Int:=if l.all (fun t=> zL (.proc t))=false then 2 else if 60 < l.length then 3 else if zL (.proc (qw l))=true then 0 else 3
def zjH (l:List Term) (A:Nat) (e:Ending) (w':World):Prop:=
 (qm l=0/\∃rs,e= .returned (.tuple #[.agg rs.toArray, .int .i64 0])/\ze w'.heap.size (blank A w') rs (qw l))∨
  (qm l≠0/\e= .returned (.tuple #[.agg #[.int .i64 0, .string ⟨#[]⟩, .slice none 0 0, .slice none 0 0, .slice none 0 0], .int .i64 (qm l)]))
theorem zjK {l:List Term} {k:Nat} (h:k < l.length) (hb:zL (.proc l[k])=false):qm l=2:=by
 unfold qm
 have:l.all (fun t=> zL (.proc t))=false:=by
  rw [List.all_eq_false];exact ⟨_,ZM h,by simp [hb]⟩
 rw [if_pos this]
theorem zk2 (hD:zbK) (l:List Term) (hlen:l.length<=1000) (B:Nat) (u w:World) (v:Value) (hu:zh B u w) (hB:B<=w.heap.size) (hv:SlAt B v l.length (fun b off=> zu B u b off l)):
  Calls Tryz.prog 44 #[v] w fun e w'=> zjH l w.heap.size e w'/\Below w.heap.size w w':=by
 obtain ⟨a,cap,rfl,hl0,hx⟩:=hv;obtain ⟨W1,hW1⟩:∃W1,W1=w.alloc o33:=⟨_,rfl⟩;have z1:W1.heap.size=w.heap.size + 1:=by rw [hW1];simp
 have b1:Below w.heap.size w W1:=by rw [hW1];exact ZQ w _
 have kb:W1.heap[w.heap.size]?=some o33:=by rw [hW1];exact ZN w _
 have HW:=ZH hW1;have HB1:=ZH (And.intro b1 (And.intro z1 kb));have HU:=ZH (And.intro hu hB);clear hW1 z1 b1 kb hu hB;go_enter Tryz.func44,Tryz.ntmps44;go_upto_region 1 with fail;rw [<-HW.out];go_wp2
 go_loopw [5] (fun i wr=> ∃(k:Nat),k<=l.length/\i= .int .i64 k/\Hid (Below W1.heap.size W1 wr/\∀j,(h:j < k)->(h2:j < l.length)->zL (.proc l[j])=true)) (fun i _=> l.length - (intOf i).toNat)
 case atStart=> exact ⟨0,by omega,rfl,ZH ⟨ZF _ _,fun j h=> by omega⟩⟩
 case round=>
  obtain ⟨k,hk,rfl,hinv⟩:=hrel;obtain ⟨b1,z1,kb⟩:=HB1.out;have hbr:=hinv.out.1;have hbw:Below w.heap.size w wr:=b1.trans (hbr.mono (by omega));have hku:zh B u wr:=HU.out.1.trans ((Below.keptC hbw).mono HU.out.2);obtain ⟨zz0,zz1,zz2,zz3,zz4,zz5,zz6,zz7,zz8,zz9⟩:=qC ((hbr.block w.heap.size (by omega)).trans kb);by_cases hlt:k < l.length
  ·rcases hx with h0 | ⟨b0,o0,rfl,hB0,hc0⟩
   ·omega
   obtain ⟨d1,e1,f1⟩:=zu.get l b0 o0 hc0 k hlt;have hck:=xx hD l[k] B u wr _ hku (by have:=hbw.size;have:=HU.out.2;omega) f1
   have hstep:zL (.proc l[k])=true->∀w3,Below wr.heap.size wr w3->Hid (Below W1.heap.size W1 w3/\∀j,(h:j < k + 1)->(h2:j < l.length)->zL (.proc l[j])=true):=fun hf w3 h3=> ZH ⟨hbr.trans (h3.mono hbr.size),fun j h h2=> by
    by_cases hj:j=k
    ·subst hj;exact hf
    ·exact hinv.out.2 j (by omega) h2⟩
   have hno:=fun hf=> zjK hlt hf;obtain ⟨tk,htk⟩:∃x,x=l[k]:=⟨_,rfl⟩;rw [<-htk] at f1 hck hstep hno;obtain ⟨g0,g1,g2,g3,g4,g5,g6,g7,g8,g9,gA,rfl⟩:=zz f1;obtain ⟨s0,s1,s2,s3,s4⟩:=zK (e1.keep hku hB0);have HBR:=ZH (And.intro hbr hbw);cases hfb:zL (.proc tk) with
   | true=>
    rw [hfb] at hck
    replace hck:Calls Tryz.prog 19 #[.agg #[.int .i64 g0, .string g1, .slice g2 g3 g4, .slice g5 g6 g7, .slice g8 g9 gA]] wr fun e w'=> e= .returned (.int .i64 0)/\Below wr.heap.size wr w':=hck
    have HST:=ZH (hstep hfb);clear hstep hno e1 f1 hc0 htk hfb hku hbr hbw hinv b1 z1 kb;go_wp2_with (go_at_call 19;refine hck.mono ?_;clear hck;rintro e w3 ⟨rfl,hb3⟩;have HF:=HST.out w3 hb3;clear hb3);go_roundw
    case rel=> exact ⟨k + 1,by omega,by go_num,HF⟩
    case measure=> simp [intOf];omega
   | false=>
    rw [hfb] at hck
    replace hck:Calls Tryz.prog 19 #[.agg #[.int .i64 g0, .string g1, .slice g2 g3 g4, .slice g5 g6 g7, .slice g8 g9 gA]] wr fun e w'=> e= .returned (.int .i64 2)/\Below wr.heap.size wr w':=hck
    have HNO:=ZH (hno hfb)
    have HQ:Hid (∀w3,Below wr.heap.size wr w3->(w3.cell? ⟨w.heap.size,0,none⟩=some (.int .i64 0)/\w3.cell? ⟨w.heap.size,1,none⟩=some (.string ⟨#[]⟩)/\w3.cell? ⟨w.heap.size,2,none⟩=some (.slice none 0 0)/\w3.cell? ⟨w.heap.size,3,none⟩=some (.slice none 0 0)/\w3.cell? ⟨w.heap.size,4,none⟩=some (.slice none 0 0)/\
      w3.frozen? ⟨w.heap.size,0,none⟩=false/\w3.frozen? ⟨w.heap.size,1,none⟩=false/\w3.frozen? ⟨w.heap.size,2,none⟩=false/\w3.frozen? ⟨w.heap.size,3,none⟩=false/\w3.frozen? ⟨w.heap.size,4,none⟩=false)/\
      Below w.heap.size w (((((w3.setCell ⟨w.heap.size,0,none⟩ (.int .i64 0)).setCell ⟨w.heap.size,1,none⟩ (.string ⟨#[]⟩)).setCell ⟨w.heap.size,2,none⟩ (.slice none 0 0)).setCell ⟨w.heap.size,3,none⟩ (.slice none 0 0)).setCell ⟨w.heap.size,4,none⟩ (.slice none 0 0))):=ZH fun w3 h3=>
     ⟨qC (((hbr.trans (h3.mono hbr.size)).block w.heap.size (by omega)).trans kb),set5 (hbw.trans (h3.mono hbw.size)) w.heap.size (ZL _) _ _ _ _ _⟩
    clear hstep hno e1 f1 hc0 htk hfb hku hbr hbw hinv b1 z1 kb;go_wp2_with (go_at_call 19;refine hck.mono ?_;clear hck;rintro e w3 ⟨rfl,hb3⟩;obtain ⟨⟨y0,y1,y2,y3,y4,y5,y6,y7,y8,y9⟩,HBF⟩:=HQ.out w3 hb3;have HBF:=ZH HBF;clear hb3);simp [bodyPost,results,Tryz.results44,go_sem,y0,y1,y2,y3,y4];exact ⟨.inr ⟨by rw [HNO.out];decide,by rw [HNO.out]⟩,HBF.out⟩
  ·obtain rfl:k=l.length:=by omega
   have hall:l.all (fun t=> zL (.proc t))=true:=by
    rw [List.all_eq_true];intro t ht;obtain ⟨j,hj,rfl⟩:=List.getElem_of_mem ht;exact hinv.out.2 j hj hj
   have hcode:qm l=if 60 < l.length then 3 else if zL (.proc (qw l))=true then 0 else 3:=by
    unfold qm;rw [if_neg (by rw [hall];decide)]
   by_cases h60:60 < l.length
   ·have HC:Hid (qm l=3):=ZH (by rw [hcode,if_pos h60])
    have HBF:=ZH (set5 hbw w.heap.size (ZL _) (.int .i64 0) (.string ⟨#[]⟩) (.slice none 0 0) (.slice none 0 0) (.slice none 0 0));have h60':(60:Int) < (l.length:Int):=by omega
    clear hcode hall hinv hku hbw hbr b1 z1 kb hx;go_wp2;simp [bodyPost,results,Tryz.results44,go_sem,zz0,zz1,zz2,zz3,zz4];exact ⟨.inr ⟨by rw [HC.out];decide,by rw [HC.out]⟩,HBF.out⟩
   ·have h60':¬(60:Int) < (l.length:Int):=by omega
    have d60:decide ((60:Int) < (l.length:Int))=false:=by simpa using h60'
    obtain ⟨wl,rfl⟩:∃wo:World,wo=wr:=⟨_,rfl⟩;have HC:=ZH (hcode.trans (if_neg h60));have HL:=ZH hall;have HBL:=ZH (And.intro hbr hbw);clear hcode hall hinv hku hbw hbr b1 z1 kb zz0 zz1 zz2 zz3 zz4 zz5 zz6 zz7 zz8 zz9;go_wp2
    go_loopw [4,6] (fun v i wr=> ∃(k:Nat),k<=l.length/\i= .int .i64 k/\Hid (yL W1.heap.size (l.take k) v wr/\Below W1.heap.size W1 wr)) (fun _ i _=> l.length - (intOf i).toNat)
    case atStart=> exact ⟨0,by omega,rfl,ZH ⟨yL.nil _ _,HBL.out.1⟩⟩
    case round=>
     obtain ⟨k,hk,rfl,hinv⟩:=hrel;obtain ⟨b1,z1,kb⟩:=HB1.out;obtain ⟨hrow,hbr⟩:=hinv.out;have hbw:Below w.heap.size w wr:=b1.trans (hbr.mono (by omega));have hku:zh B u wr:=HU.out.1.trans ((Below.keptC hbw).mono HU.out.2);by_cases hlt:k < l.length
     ·rcases hx with h0 | ⟨b0,o0,rfl,hB0,hc0⟩
      ·omega
      obtain ⟨d1,e1,f1⟩:=zu.get l b0 o0 hc0 k hlt;have hfm:zT (.proc l[k]):=qI.2 (List.all_eq_true.1 HL.out _ (ZM hlt));have hcp:=zil l[k] hfm.fit0 B u wr _ hku (by have:=hbw.size;have:=HU.out.2;omega) f1;have htk:=ZT hlt;have hl1:(l.take k).length<=1000:=by rw [List.length_take];omega
      obtain ⟨tk,hte⟩:∃x,x=l[k]:=⟨_,rfl⟩;rw [<-hte] at f1 hcp htk;obtain ⟨g0,g1,g2,g3,g4,g5,g6,g7,g8,g9,gA,rfl⟩:=zz f1;obtain ⟨s0,s1,s2,s3,s4⟩:=zK (e1.keep hku hB0)
      have hcall:Calls Tryz.prog 78 #[.agg #[.int .i64 g0, .string g1, .slice g2 g3 g4, .slice g5 g6 g7, .slice g8 g9 gA]] wr fun e w'=> ∃(c0:Int) (c1:ByteArray) (c2:Option Addr) (c3 c4:Nat) (c5:Option Addr) (c6 c7:Nat) (c8:Option Addr) (c9 c10:Nat) (v':Value) (w5:World),e= .returned (.agg #[.int .i64 c0, .string c1, .slice c2 c3 c4, .slice c5 c6 c7, .slice c8 c9 c10])/\
        (Builtin.append_ #[31,31] 31 #[u4, .slice (some ⟨w'.heap.size,0,none⟩) 1 1]).run Tryz.prog (w'.alloc (.cells #[.int .i64 c0, .string c1, .slice c2 c3 c4, .slice c5 c6 c7, .slice c8 c9 c10] 33))= .ok v' w5/\Hid (yL W1.heap.size (l.take (k + 1)) v' w5/\Below W1.heap.size W1 w5):=by
       refine hcp.mono ?_;rintro e w' ⟨rs,rfl,hat,hb⟩;obtain ⟨c0,c1,c2,c3,c4,c5,c6,c7,c8,c9,c10,rfl⟩:=zz hat;obtain ⟨v',w5,r1,r2,r3,r4⟩:=yL.step hrow hbr.size hl1 hb _ rfl (by simp [Value.oneCell']) tk hat;rw [<-htk] at r2;obtain ⟨vals,ho,-⟩:=hrow;exact ⟨c0,c1,c2,c3,c4,c5,c6,c7,c8,c9,c10,v',w5,rfl,r1,ZH ⟨r2,hbr.grown r3 hbr.size (fun r e=> (ho.lt r e).1)⟩⟩
      clear hcp hrow hbr hbw hku e1 f1 hc0 htk hte hl1 hfm hinv b1 z1 kb
      go_wp2_with (first
       | (go_at_call 78;refine hcall.mono ?_;clear hcall;rintro e w' ⟨c0,c1,c2,c3,c4,c5,c6,c7,c8,c9,c10,v',w5,rfl,hr,HF⟩)
       | (show wpList _ _ _ (⟨some 38,_,_,_,_,_⟩::_) _ _;refine qe rfl (.tmp 31) (.tmp 37) 31 31 rfl rfl rfl hr ?_))
      go_roundw
      case rel=> exact ⟨k + 1,by omega,by go_num,HF⟩
      case measure=> simp [intOf];omega
     ·obtain rfl:k=l.length:=by omega
      rw [List.take_length] at hrow;have hbs:=hbr.size;have h97:=zf6 l hlen wr.heap.size (blank W1.heap.size wr) wr u4 (q9 _ _ _) (ZL _) hrow.terms
      have hcall:Calls Tryz.prog 97 #[u4] wr fun e w'=> ∃(c0:Int) (c1:ByteArray) (c2:Option Addr) (c3 c4:Nat) (c5:Option Addr) (c6 c7:Nat) (c8:Option Addr) (c9 c10:Nat),e= .returned (.agg #[.int .i64 c0, .string c1, .slice c2 c3 c4, .slice c5 c6 c7, .slice c8 c9 c10])/\
        Hid (Below W1.heap.size W1 w'/\ze w'.heap.size (blank W1.heap.size w') [.int .i64 c0, .string c1, .slice c2 c3 c4, .slice c5 c6 c7, .slice c8 c9 c10] (qw l)):=by
       refine h97.mono ?_;rintro e w' ⟨rs,rfl,hb,hX⟩;have hat:=hX (blank W1.heap.size w') (qg (ZL _) fun b o x hA hlt' hv=> (hb.cell (p:=⟨b,o,none⟩) hlt').trans hv) (fun b o x hle hv=> by rw [yT,if_neg (by omega)];exact hv);obtain ⟨c0,c1,c2,c3,c4,c5,c6,c7,c8,c9,c10,rfl⟩:=zz hat;exact ⟨c0,c1,c2,c3,c4,c5,c6,c7,c8,c9,c10,rfl,ZH ⟨hbr.trans (hb.mono hbs),hat⟩⟩
      have H19:Hid (∀(w4:World) (c0:Int) (c1:ByteArray) (c2:Option Addr) (c3 c4:Nat) (c5:Option Addr) (c6 c7:Nat) (c8:Option Addr) (c9 c10:Nat),Below W1.heap.size W1 w4/\ze w4.heap.size (blank W1.heap.size w4) [.int .i64 c0, .string c1, .slice c2 c3 c4, .slice c5 c6 c7, .slice c8 c9 c10] (qw l)->Calls Tryz.prog 19 #[.agg #[.int .i64 c0, .string c1, .slice c2 c3 c4, .slice c5 c6 c7, .slice c8 c9 c10]] (w4.alloc (.cells #[.int .i64 c0, .string c1, .slice c2 c3 c4, .slice c5 c6 c7, .slice c8 c9 c10] 33)) fun e w'=> e= .returned (.int .i64 (jG (zL (.proc (qw l)))))/\(w'.cell? ⟨w.heap.size,0,none⟩=some (.int .i64 0)/\w'.cell? ⟨w.heap.size,1,none⟩=some (.string ⟨#[]⟩)/\w'.cell? ⟨w.heap.size,2,none⟩=some (.slice none 0 0)/\w'.cell? ⟨w.heap.size,3,none⟩=some (.slice none 0 0)/\w'.cell? ⟨w.heap.size,4,none⟩=some (.slice none 0 0)/\w'.frozen? ⟨w.heap.size,0,none⟩=false/\w'.frozen? ⟨w.heap.size,1,none⟩=false/\w'.frozen? ⟨w.heap.size,2,none⟩=false/\w'.frozen? ⟨w.heap.size,3,none⟩=false/\w'.frozen? ⟨w.heap.size,4,none⟩=false)/\(w'.cell? ⟨w4.heap.size,0,none⟩=some (.int .i64 c0)/\w'.cell? ⟨w4.heap.size,1,none⟩=some (.string c1)/\w'.cell? ⟨w4.heap.size,2,none⟩=some (.slice c2 c3 c4)/\w'.cell? ⟨w4.heap.size,3,none⟩=some (.slice c5 c6 c7)/\w'.cell? ⟨w4.heap.size,4,none⟩=some (.slice c8 c9 c10))/\
        Hid (ze w'.heap.size (blank w.heap.size (((((w'.setCell ⟨w.heap.size,0,none⟩ (.int .i64 c0)).setCell ⟨w.heap.size,1,none⟩ (.string c1)).setCell ⟨w.heap.size,2,none⟩ (.slice c2 c3 c4)).setCell ⟨w.heap.size,3,none⟩ (.slice c5 c6 c7)).setCell ⟨w.heap.size,4,none⟩ (.slice c8 c9 c10))) [.int .i64 c0, .string c1, .slice c2 c3 c4, .slice c5 c6 c7, .slice c8 c9 c10] (qw l)/\Below w.heap.size w (((((w'.setCell ⟨w.heap.size,0,none⟩ (.int .i64 c0)).setCell ⟨w.heap.size,1,none⟩ (.string c1)).setCell ⟨w.heap.size,2,none⟩ (.slice c2 c3 c4)).setCell ⟨w.heap.size,3,none⟩ (.slice c5 c6 c7)).setCell ⟨w.heap.size,4,none⟩ (.slice c8 c9 c10)))/\Hid (Below w.heap.size w (((((w'.setCell ⟨w.heap.size,0,none⟩ (.int .i64 0)).setCell ⟨w.heap.size,1,none⟩ (.string ⟨#[]⟩)).setCell ⟨w.heap.size,2,none⟩ (.slice none 0 0)).setCell ⟨w.heap.size,3,none⟩ (.slice none 0 0)).setCell ⟨w.heap.size,4,none⟩ (.slice none 0 0)))):=ZH fun w4 c0 c1 c2 c3 c4 c5 c6 c7 c8 c9 c10 h4=> by
       obtain ⟨hb4,hat⟩:=h4;have hs4:=hb4.size;have hb5:Below w4.heap.size w4 (w4.alloc (.cells #[.int .i64 c0, .string c1, .slice c2 c3 c4, .slice c5 c6 c7, .slice c8 c9 c10] 33)):=ZQ w4 _;refine (xx hD (qw l) w4.heap.size (blank W1.heap.size w4) (w4.alloc (.cells #[.int .i64 c0, .string c1, .slice c2 c3 c4, .slice c5 c6 c7, .slice c8 c9 c10] 33)) [.int .i64 c0, .string c1, .slice c2 c3 c4, .slice c5 c6 c7, .slice c8 c9 c10] ((q9 _ _ _).trans (Below.keptC hb5)) hb5.size hat).mono ?_;rintro e w' ⟨rfl,hb⟩;have hb6:Below w4.heap.size w4 w':=hb5.trans (hb.mono hb5.size);have hb7:Below W1.heap.size W1 w':=hb4.trans (hb6.mono hs4);have hk7:w'.heap[w4.heap.size]?=some (.cells #[.int .i64 c0, .string c1, .slice c2 c3 c4, .slice c5 c6 c7, .slice c8 c9 c10] 33):=(hb.block w4.heap.size (by simp)).trans (ZN w4 _);obtain ⟨t0,t1,t2,t3,t4,-,-,-,-,-⟩:=qC hk7;have hb8:Below w.heap.size w w':=b1.trans (hb7.mono (by omega));have hset:zE W1.heap.size w' (((((w'.setCell ⟨w.heap.size,0,none⟩ (.int .i64 c0)).setCell ⟨w.heap.size,1,none⟩ (.string c1)).setCell ⟨w.heap.size,2,none⟩ (.slice c2 c3 c4)).setCell ⟨w.heap.size,3,none⟩ (.slice c5 c6 c7)).setCell ⟨w.heap.size,4,none⟩ (.slice c8 c9 c10)):=((((zE.set w' (by omega) 0 _).trans (zE.set _ (by omega) 1 _)).trans (zE.set _ (by omega) 2 _)).trans (zE.set _ (by omega) 3 _)).trans (zE.set _ (by omega) 4 _);refine ⟨rfl,qC ((hb7.block w.heap.size (by omega)).trans kb),⟨t0,t1,t2,t3,t4⟩,ZH ⟨?_,set5 hb8 _ (ZL _) _ _ _ _ _⟩,ZH (set5 hb8 _ (ZL _) _ _ _ _ _)⟩;exact ze.keep (((zE.of_below hb6).trans hset).blank (by omega)) hb6.size _ _ hat
      clear h97 hrow hbr hbw hku hinv b1 z1 kb hbs hx;cases hfb:zL (.proc (qw l)) with
      | true=>
       have HC2:Hid (qm l=0):=ZH (by rw [HC.out,if_pos hfb]);rw [hfb] at H19;clear hfb
       go_wp2_with (first
        | (go_at_call 97;refine hcall.mono ?_;clear hcall;rintro e w4 ⟨c0,c1,c2,c3,c4,c5,c6,c7,c8,c9,c10,rfl,H4⟩)
        | (go_at_call 19;refine (H19.out w4 c0 c1 c2 c3 c4 c5 c6 c7 c8 c9 c10 H4.out).mono ?_;clear H19;rintro e w6 ⟨rfl,⟨y0,y1,y2,y3,y4,y5,y6,y7,y8,y9⟩,⟨t0,t1,t2,t3,t4⟩,HF,HG⟩;simp only [jG,if_true]))
       simp [bodyPost,results,Tryz.results44,go_sem,y0,y1,y2,y3,y4];exact ⟨.inl ⟨HC2.out,_,rfl,by simpa [World.setCell] using HF.out.1⟩,HF.out.2⟩
      | false=>
       have HC2:Hid (qm l=3):=ZH (by rw [HC.out,if_neg (by rw [hfb];decide)]);rw [hfb] at H19;clear hfb
       go_wp2_with (first
        | (go_at_call 97;refine hcall.mono ?_;clear hcall;rintro e w4 ⟨c0,c1,c2,c3,c4,c5,c6,c7,c8,c9,c10,rfl,H4⟩)
        | (go_at_call 19;refine (H19.out w4 c0 c1 c2 c3 c4 c5 c6 c7 c8 c9 c10 H4.out).mono ?_;clear H19;rintro e w6 ⟨rfl,⟨y0,y1,y2,y3,y4,y5,y6,y7,y8,y9⟩,⟨t0,t1,t2,t3,t4⟩,HF,HG⟩;simp only [jG]))
       simp [bodyPost,results,Tryz.results44,go_sem,y0,y1,y2,y3,y4];exact ⟨.inr ⟨by rw [HC2.out];decide,by rw [HC2.out]⟩,HG.out⟩
def xU (A:Nat) (l:List Msg) (v:Value) (w:World):Prop:=∃vals,w.ownsRow A 144 2 v l.length vals/\zq (fun _ w1 cs x=> qz yK A v.ownBlock w1 cs x) 2 0 w vals l
theorem xU.nil (A:Nat) (w:World):xU A [] (.slice none 0 0) w:=⟨[],ZR _ _ _ _,zq.nil _ _ _ _⟩
theorem xU.later {A:Nat} {l:List Msg} {v:Value} {w w':World} (h:xU A l v w) (hb:Below w.heap.size w w'):xU A l v w':=by
 obtain ⟨vals,h1,h2⟩:=h;exact ⟨vals,zt h1 (zj hb) (fun b _ e=> by cases e),h2.1,fun i hi=> qz.keep xY (h2.2 i hi) (fun b _ hb2 _=> hb.block b hb2) hb.size (.inl rfl)⟩
theorem xU.step {A:Nat} {l:List Msg} {v:Value} {wr w3:World} (h:xU A l v wr) (hA:A<=wr.heap.size) (hl:l.length<=1000) (hb3:Below wr.heap.size wr w3) (rs:List Value) (hrl:rs.length=2) (h1c:∀u∈rs,u.oneCell'=true) (x:Msg)
  (hat':yK w3.heap.size (blank wr.heap.size w3) rs x):
  ∃v' w',(Builtin.append_ #[128,128] 128 #[v, .slice (some ⟨w3.heap.size,0,none⟩) 1 1]).run Tryz.prog (w3.alloc (.cells rs.toArray 144))= .ok v' w'/\xU A (l ++ [x]) v' w'/\wr.grownBy w' v.ownBlock/\(v'.ownBlock=v.ownBlock∨∃g,v'.ownBlock=some g/\wr.heap.size<=g):=by
 obtain ⟨vals,hown,hch⟩:=h;obtain ⟨i0,hi,hz0,hz1,hz2⟩:=info_parts zfq;obtain ⟨W4,hW4⟩:∃W4,W4=w3.alloc (.cells rs.toArray 144):=⟨_,rfl⟩;have hs3:=hb3.size;have hb4:Below wr.heap.size wr W4:=by rw [hW4];exact hb3.alloc hs3 _
 have hg4:=zj hb4;have hoA:=zt hown hg4 (fun b hb e=> by cases e)
 obtain ⟨v',w',hr,h1,h2,h3,h4⟩:=run_append_own_at (P:=Tryz.prog) W4 A 128 128 144 i0 (.agg #[.string ⟨#[]⟩, .slice none 0 0]) 2 40 Tryz.underlying128 hi hz0 hz1 hz2 rfl (by decide) _ _ vals hoA
  ⟨w3.heap.size,0,none⟩ 1 1 rs (by rw [hrl]) (by
   intro j u hj;have e:(⟨w3.heap.size,0,none⟩:Addr).add j=⟨w3.heap.size,j,none⟩:=by unfold Addr.add;by_cases h:j=0 <;> simp [h]
   rw [e,hW4,ZA _ _ _ _ rfl];simpa using hj) h1c (by unfold maxLen;omega) (by omega) (by have:=hb4.size;omega)
 have hs4:W4.heap.size=w3.heap.size + 1:=by rw [hW4];simp
 have hlo:=hown.lt;have hs2:=h2.size;refine ⟨v',w',by rw [<-hW4];exact hr,⟨vals ++ rs,by rw [List.length_append];exact h1,?_⟩,zk (zk (qx _ _) hg4 (fun r e=> by cases e)) h2 (fun r e=> .inr e),?_⟩
 ·have hch1:zq (fun _ w1 cs x=> qz yK A v'.ownBlock w1 cs x) 2 0 w' vals l:=⟨hch.1,fun i hi=> qz.keep xY (hch.2 i hi) (fun b hb1 hb2 hb3=>
   (h2.block b (by omega) (fun e=> hb3 e.symm)).trans (hg4.block b hb2 (fun e=> by cases e))) (by omega) (by
    rcases h4 with h4 | h4
    ·exact .inl h4
    ·exact .inr ⟨_,h4,by omega⟩)⟩
  refine zq.snoc hch1 ?_ hrl;refine ⟨wr.heap.size,w3.heap.size,hA,by omega,fun g hg=> ?_,?_⟩
  ·rcases h4 with h4 | h4
   ·rw [h4] at hg;have:=(hlo g hg).2;omega
   ·rw [h4] at hg;have:=ZJ hg;omega
  ·refine xY _ _ _ _ _ _ (qg (ZL _) fun b o v ha hb hv=> ?_) (ZL _) hat'
   have e1:W4.cell? ⟨b,o,none⟩=some v:=by rw [hW4,ZP _ _ _ hb];exact hv
   refine (ZB (w:=W4) (h2.block b (by omega) (fun e=> ?_))).trans e1;have:=(hlo b e.symm).2;omega
 ·rcases h4 with h4 | h4
  ·exact .inl h4
  ·exact .inr ⟨_,h4,by omega⟩
set_option maxRecDepth 100000 in
theorem zkw (js:List Msg) (hjl:js.length<=100) (hnl:∀j∈js,j.names.length<=100) (B:Nat) (u w:World) (c1 c2 v:Value) (hu:zh B u w) (hB:B<=w.heap.size) (hv:SlAt B v js.length (fun b off=> zX B u b off js)):
  Calls Tryz.prog 177 #[.agg #[c1,c2],v] w fun e w'=> ∃v',e= .returned v'/\SlAt w'.heap.size v' js.length (fun b off=> zX w'.heap.size (blank w.heap.size w') b off js)/\Below w.heap.size w w':=by
 obtain ⟨a,cap,rfl,hl0,hx⟩:=hv;obtain ⟨W1,hW1⟩:∃W1,W1=w.alloc (.cells #[c1,c2] 111):=⟨_,rfl⟩;have b1:Below w.heap.size w W1:=by rw [hW1];exact ZQ w _
 have HW:=ZH hW1;have HB1:=ZH b1;have HU:=ZH (And.intro hu hB);clear hW1 b1 hu hB;go_enter Tryz.func177,Tryz.ntmps177;go_upto_region 1 with fail;rw [<-HW.out];go_wp2
 go_loopw [5,6] (fun v i wr=> ∃(k:Nat),k<=js.length/\i= .int .i64 k/\Hid (xU w.heap.size (js.take k) v wr/\Below w.heap.size w wr)) (fun _ i _=> js.length - (intOf i).toNat)
 case atStart=> exact ⟨0,by omega,rfl,ZH ⟨xU.nil _ _,HB1.out⟩⟩
 case round=>
  obtain ⟨k,hk,rfl,hinv⟩:=hrel;obtain ⟨hrow,hbw⟩:=hinv.out;have hku:zh B u wr:=HU.out.1.trans ((Below.keptC hbw).mono HU.out.2);by_cases hlt:k < js.length
  ·rcases hx with h0 | ⟨b0,o0,rfl,hB0,hc0⟩
   ·omega
   obtain ⟨d1,e1,f1⟩:=zX.get js b0 o0 hc0 k hlt;have htk:=ZT hlt;have hl1:(js.take k).length<=1000:=by rw [List.length_take];omega
   have hn:=hnl _ (ZM hlt);obtain ⟨jk,hjk⟩:∃x,x=js[k]:=⟨_,rfl⟩;rw [<-hjk] at f1 htk hn;obtain ⟨jt,jn⟩:=jk;obtain ⟨hjz,_,rfl,hnm⟩:=f1;have hnm0:=hnm;obtain ⟨na,nc,rfl,-⟩:=hnm;dsimp only at hn hjz hnm0;have hBs:B<=wr.heap.size:=Nat.le_trans HU.out.2 hbw.size;have hS:∀W,Below wr.heap.size wr W->W.cell? ⟨b0,o0 + k * 2,none⟩=some (.string jt)/\W.cell? ⟨b0,o0 + k * 2 + 1,none⟩=some (.slice na jn.length nc):=fun W hW=> yO (e1.keep (hku.trans ((Below.keptC hW).mono hBs)) hB0);have hd:Below wr.heap.size wr wr.drew:=(ZF _ _).drew;have hA:Below wr.heap.size wr (wr.drew.alloc (.cells #[] 9)):=hd.alloc hd.size _;have zA:(wr.drew.alloc (.cells #[] 9)).heap.size=wr.heap.size + 1:=by simp
   have hst:zx (wr.drew.alloc (.cells #[] 9)).heap.size (wr.drew.alloc (.cells #[] 9)) (.slice na jn.length nc) jn:=((hnm0.keep (hku.trans ((Below.keptC hA).mono hBs))).mono (by omega));obtain ⟨v5,w5,hr5,ho5,hz5,hg5⟩:=yQ 22 (zfT wr.drew [] (by simp)) hst (by rw [show (zn []).toArray=#[] from rfl,zA];show wr.heap.size<=_;omega) (by simp) (by omega) (by simp);rw [List.nil_append] at ho5 hz5;rw [show (zn []).toArray=#[] from rfl] at hr5 hg5;obtain ⟨x5,c5,rfl,-⟩:=zJ (by omega) ho5;have hb5:Below wr.heap.size wr w5:=hA.grown hg5 hA.size (fun r e=> by have:=ZJ e;have h0:wr.drew.heap.size=wr.heap.size:=rfl;simp only at this;omega);obtain ⟨v7,w7,hr7,hrow7,hg7,ho7⟩:=xU.step hrow hbw.size hl1 hb5 [.string jt, .slice x5 jn.length c5] rfl (by simp [Value.oneCell']) ⟨jt,jn⟩ ⟨hjz,_,rfl,zco ho5 hz5⟩;rw [<-htk] at hrow7;obtain ⟨vals,hown,-⟩:=hrow
   have HS7:Hid (w7.cell? ⟨b0,o0 + k * 2,none⟩=some (.string jt)/\w7.cell? ⟨b0,o0 + k * 2 + 1,none⟩=some (.slice na jn.length nc)):=ZH (by
    refine yO (e1.keep (hku.trans fun b o x hb hxx=> ?_) hB0);exact (ZB (w:=wr) (hg7.block b (zD hxx) (fun e=> by have:=(hown.lt b e.symm).1;have:=HU.out.2;omega))).trans hxx)
   have HF:Hid (xU w.heap.size (js.take (k + 1)) v7 w7/\Below w.heap.size w w7):=ZH ⟨hrow7,hbw.grown hg7 hbw.size (fun r e=> (hown.lt r e).1)⟩;have HS:=ZH hS;have HBD:=ZH hd;have HB5:=ZH hb5;clear hS hd hA zA hst ho5 hz5 hg5 hb5 hrow7 hg7 ho7 hown htk hjk hnm0 hn hjz e1 hc0 hku hbw hinv hl1 hBs;go_wp2;refine jg (fun W=> W.cell? ⟨b0,o0 + k * 2,none⟩=some (.string jt)/\W.cell? ⟨b0,o0 + k * 2 + 1,none⟩=some (.slice na jn.length nc)) 16 (by kernel_rfl) ?_;refine Sunk.takeD 0 (some 13) (u5) rfl rfl (by kernel_rfl) (by kernel_rfl) (by kernel_rfl) (by kernel_rfl) (fun _ _ _ h=> h) (HS.out _ HBD.out) (by rfl) (by rintro W ⟨e0,e1⟩;go_simp) ?_
   (try simp only [ZS])
   refine Sunk.takeD 1 (some 14) (.slice (some ⟨b0,o0,none⟩) js.length cap) rfl rfl (by kernel_rfl) (by kernel_rfl) (by kernel_rfl) (by kernel_rfl) (fun _ _ _ h=> h) (HS.out _ HBD.out) (by rfl) (by rintro W ⟨e0,e1⟩;go_simp) ?_
   (try simp only [ZS])
   refine Sunk.takeD 2 (some 15) (.int .i64 k) rfl rfl (by kernel_rfl) (by kernel_rfl) (by kernel_rfl) (by kernel_rfl) (fun _ _ _ h=> h) (HS.out _ HBD.out) (by rfl) (by rintro W ⟨e0,e1⟩;go_simp) ?_
   (try simp only [ZS])
   refine Sunk.takeD 3 (some 16) (.pointer (some ⟨b0,o0 + k * 2,none⟩)) rfl rfl (by kernel_rfl) (by kernel_rfl) (by kernel_rfl) (by kernel_rfl) (fun _ _ _ h=> h) (HS.out _ HBD.out) (by rfl) (by rintro W ⟨e0,e1⟩;go_simp) ?_
   (try simp only [ZS])
   refine Sunk.takeD 4 (some 17) (.pointer (some ⟨b0,o0 + k * 2,none⟩)) rfl rfl (by kernel_rfl) (by kernel_rfl) (by kernel_rfl) (by kernel_rfl) (fun _ _ _ h=> h) (HS.out _ HBD.out) (by rfl) (by rintro W ⟨e0,e1⟩;go_simp) ?_
   (try simp only [ZS])
   refine Sunk.takeD 5 (some 18) (.string jt) rfl rfl (by kernel_rfl) (by kernel_rfl) (by kernel_rfl) (by kernel_rfl) (fun _ _ _ h=> h) (HS.out _ HBD.out) (by rfl) (by rintro W ⟨e0,e1⟩;go_simp) ?_
   (try simp only [ZS])
   refine Sunk.takeD 7 (some 20) (.slice (some ⟨b0,o0,none⟩) js.length cap) rfl rfl (by kernel_rfl) (by kernel_rfl) (by kernel_rfl) (by kernel_rfl) (fun _ _ _ h=> h) (HS.out _ HBD.out) (by rfl) (by rintro W ⟨e0,e1⟩;go_simp) ?_
   (try simp only [ZS])
   refine Sunk.takeD 8 (some 21) (.int .i64 k) rfl rfl (by kernel_rfl) (by kernel_rfl) (by kernel_rfl) (by kernel_rfl) (fun _ _ _ h=> h) (HS.out _ HBD.out) (by rfl) (by rintro W ⟨e0,e1⟩;go_simp) ?_
   (try simp only [ZS])
   refine Sunk.takeD 9 (some 22) (.pointer (some ⟨b0,o0 + k * 2,none⟩)) rfl rfl (by kernel_rfl) (by kernel_rfl) (by kernel_rfl) (by kernel_rfl) (fun _ _ _ h=> h) (HS.out _ HBD.out) (by rfl) (by rintro W ⟨e0,e1⟩;go_simp) ?_
   (try simp only [ZS])
   refine Sunk.takeD 10 (some 23) (.pointer (some ⟨b0,o0 + k * 2 + 1,none⟩)) rfl rfl (by kernel_rfl) (by kernel_rfl) (by kernel_rfl) (by kernel_rfl) (fun _ _ _ h=> h) (HS.out _ HBD.out) (by rfl) (by rintro W ⟨e0,e1⟩;go_simp) ?_
   (try simp only [ZS])
   refine Sunk.takeD 11 (some 24) (.slice na jn.length nc) rfl rfl (by kernel_rfl) (by kernel_rfl) (by kernel_rfl) (by kernel_rfl) (fun _ _ _ h=> h) (HS.out _ HBD.out) (by rfl) (by rintro W ⟨e0,e1⟩;go_simp) ?_
   (try simp only [ZS])
   refine Sunk.one 6 (by kernel_rfl) rfl (by rfl) (fun K hK=> ?_);go_simp;refine hK.out _ _ (fun _=> HS.out _ (HBD.out.alloc HBD.out.size _)) ?_;clear hK K
   (try simp only [ZS])
   refine Sunk.one 12 (by kernel_rfl) rfl (by rfl) (fun K hK=> ?_);show Oper.wp _ ⟨some 25, .call { callee:= .builtin .append,args:=#[.tmp 19, .tmp 24],argTypes:=#[22,22] },22,_,_,none⟩ _ _ _ _;refine xu (.tmp 19) (.tmp 24) 22 22 rfl rfl rfl hr5 ?_;refine hK.out _ _ (fun _=> HS.out _ HB5.out) ?_;clear hK K
   (try simp only [ZS])
   refine Sunk.takeD 13 (some 26) (.agg #[.string jt, .slice x5 jn.length c5]) rfl rfl (by kernel_rfl) (by kernel_rfl) (by kernel_rfl) (by kernel_rfl) (fun _ _ _ h=> h) (HS.out _ HB5.out) (by rfl) (by rintro W ⟨e0,e1⟩;go_simp) ?_
   (try simp only [ZS])
   refine Sunk.one 14 (by kernel_rfl) rfl (by rfl) (fun K hK=> ?_);go_simp;refine hK.out _ _ (fun _=> HS.out _ (HB5.out.alloc HB5.out.size _)) ?_;clear hK K
   (try simp only [ZS])
   refine Sunk.one 15 (by kernel_rfl) rfl (by rfl) (fun K hK=> ?_);show Oper.wp _ ⟨some 28, .call { callee:= .builtin .append,args:=#[.tmp 13, .tmp 27],argTypes:=#[128,128] },128,_,_,none⟩ _ _ _ _;refine xu (.tmp 13) (.tmp 27) 128 128 rfl rfl rfl hr7 ?_;refine hK.out _ _ (fun _=> HS7.out) ?_;clear hK K
   (try simp only [ZS])
   refine Sunk.one 16 (by kernel_rfl) rfl (by rfl) (fun K hK=> ?_);go_simp;refine hK.out _ _ (fun h=> absurd rfl h) ?_;clear hK K
   (try simp only [ZS])
   refine Sunk.done (by kernel_rfl) ?_;go_wp2;go_roundw
   case rel=> exact ⟨k + 1,by omega,by go_num,HF⟩
   case measure=> simp [intOf];omega
  ·obtain rfl:k=js.length:=by omega
   rw [List.take_length] at hrow;obtain ⟨vals,h1,h2⟩:=hrow;have HF:=ZH (And.intro (zgM h1 h2) hbw);clear h1 h2 hku hbw hinv hx;go_wp2;go_ret;exact ⟨_,rfl,HF.out.1,HF.out.2⟩
theorem zjx {U:Used} {m:Nat} (h:Cov U m) (hm:m<=4900):qn (mkB (choose U))=true:=by
 obtain ⟨j,hj,hg⟩:=h.free hm;obtain ⟨h1,_,h3⟩:=zaA U 5000 0 j (by omega) (by omega) hg;obtain ⟨n,hn⟩:∃n,n=yW U 5000 0:=⟨_,rfl⟩;unfold choose;rw [<-hn] at h1 h3 ⊢
 have hlen:(strN n).length<=8:=by
  rcases Nat.lt_or_ge 8 (strN n).length with h | h
  ·have:=zfR h;omega
  ·exact h
 have hpos:1<=(strN n).length:=by
  rcases Nat.eq_zero_or_pos (strN n).length with h | h
  ·exact absurd (List.length_eq_zero_iff.1 h) (zmX n)
  ·exact h
 have hl:=(jN n).2;unfold jZ at h1;rw [Bool.and_eq_true] at h1;have hd:(mkB (strN n)).data.toList=strN n:=yv _;unfold qn yJ;rw [hd,zgO]
 have hlow:zaf (strN n)=true:=by
  unfold zaf;rw [List.all_eq_true];intro c hc;simpa using hl c hc
 rw [hlow];have:=h1.1;unfold yp at this;rw [this];simp;omega
def xS:Nat->Used->List ByteArray×Used
 | 0,U=> ([],U)
 | n + 1,U=> (mkB (choose U)::(xS n (xl U (choose U))).1,(xS n (xl U (choose U))).2)
theorem zhq:∀(n:Nat) (U:Used) (m:Nat),Cov U m->m + n<=4900->
  (∀c∈(xS n U).1,qn c=true/\U (zb c)=false/\(xS n U).2 (zb c)=true)/\((xS n U).1.map zb).Nodup/\(∀k,U k=true->(xS n U).2 k=true)/\Cov (xS n U).2 (m + n)
 | 0,U,m,hC,_=> ⟨fun c hc=> by simp [xS] at hc,by simp [xS],fun _ h=> h,hC⟩
 | n + 1,U,m,hC,hm=> by
  obtain ⟨h1,h2,h3,h4⟩:=zhq n (xl U (choose U)) (m + 1) (hC.plus _) (by omega);rw [xS];refine ⟨fun c hc=> ?_,?_,fun k hk=> h3 k (by simp [xl,hk]),by rw [show m + (n + 1)=m + 1 + n from by omega];exact h4⟩
  ·rcases List.mem_cons.1 hc with rfl | hc
   ·exact ⟨zjx hC (by omega),by rw [yv];exact zh5 hC (by omega),h3 _ (by rw [yv];simp [xl])⟩
   ·obtain ⟨a1,a2,a3⟩:=h1 c hc
    unfold xl at a2;exact ⟨a1,(Bool.or_eq_false_iff.1 a2).1,a3⟩
  ·rw [List.map_cons,List.nodup_cons]
   refine ⟨fun hmem=> ?_,h2⟩;obtain ⟨c,hc,he⟩:=List.mem_map.1 hmem;have:=(h1 c hc).2.1;rw [he,yv] at this;simp [xl] at this
def nm (v:Env) (n:ByteArray):ByteArray:=(zaF n v.frames).getD n
structure InA (v:Env) (U:Used) (p:Part) (i:Env×Used):Prop where
 base:i.1.base= .anew
 us:i.2=(xS (zR p).length U).2
 new:(zR p).map (nm i.1)=(xS (zR p).length U).1
 bound:∀n,bndP p (zb n)=true->zaF n i.1.frames=some (nm i.1 n)
 old:∀n,bndP p (zb n)=false->zaF n i.1.frames=zaF n v.frames
theorem InA.inj {v:Env} {U:Used} {p:Part} {i:Env×Used} {m:Nat} (h:InA v U p i) (hC:Cov U m) (hm:m + (zR p).length<=4900):∀a∈zR p,∀b∈zR p,nm i.1 a=nm i.1 b->a=b:=by
 intro a ha b hb he;obtain ⟨j,hj,rfl⟩:=List.mem_iff_getElem.1 ha;obtain ⟨k,hk,rfl⟩:=List.mem_iff_getElem.1 hb;have hnd:=(zhq _ U m hC hm).2.1;rw [<-h.new] at hnd;have hnd2:((zR p).map (nm i.1)).Nodup:=(List.pairwise_map.1 hnd).imp (fun hne e=> hne (congrArg zb e));have hpw:=List.pairwise_iff_getElem.1 hnd2
 have hlt:∀a b,(ha:a < (zR p).length)->(hb:b < (zR p).length)->a < b->nm i.1 (zR p)[a]≠nm i.1 (zR p)[b]:=fun a b ha hb hab=> by
  have:=hpw a b (by rw [List.length_map];exact ha) (by rw [List.length_map];exact hb) hab;rw [List.getElem_map,List.getElem_map] at this;exact this
 rcases Nat.lt_trichotomy j k with h1 | h1 | h1
 ·exact absurd he (hlt j k hj hk h1)
 ·subst h1;rfl
 ·exact absurd he.symm (hlt k j hk hj h1)
def jsig (j:Msg):ByteArray×Nat:=(j.text,j.names.length)
def gsig (g:List zg):List (ByteArray×Nat):=g.flatMap (fun c=> c.joins.map jsig)
def QA (q:Part):Prop:=q.shaped=true/\((zR q).map zb).Nodup
theorem zfI {d:List zg} {U:List UInt8->Int×Int}:(∀i,(h:i < (zm d).length)->∀c∈(zm d)[i],∀j∈c.joins,U (zb j.text)=((i:Int),(j.names.length:Int)))↔
  ∀(i:Nat) (g:List (ByteArray×Nat)),((zm d).map gsig)[i]?=some g->∀x∈g,U (zb x.1)=((i:Int),(x.2:Int)):=by
 constructor
 ·intro h i g hg x hx
  rw [List.getElem?_map] at hg;cases hq:(zm d)[i]? with
  | none=> rw [hq] at hg;cases hg
  | some g0=>
   rw [hq] at hg;cases hg;obtain ⟨hi,rfl⟩:=List.getElem?_eq_some_iff.1 hq;unfold gsig at hx;obtain ⟨c,hc,hx⟩:=List.mem_flatMap.1 hx;obtain ⟨j,hj,rfl⟩:=List.mem_map.1 hx;exact h i hi c hc j hj
 ·intro h i hi c hc j hj
  refine h i (gsig (zm d)[i]) (by rw [List.getElem?_map,List.getElem?_eq_getElem hi];rfl) (jsig j) ?_;unfold gsig;exact List.mem_flatMap.2 ⟨c,hc,List.mem_map.2 ⟨j,hj,rfl⟩⟩
mutual
theorem zhS:∀c:zg,yk (layC c)=(yk c).map zQ
 | .mk f t j d k=> by
  rw [layC,yk,yk];by_cases hf:f=2
  ·rw [if_pos hf,if_pos hf,zbY d,List.map_cons]
  ·rw [if_neg hf,if_neg hf,List.map_nil]
theorem zbY:∀l:List zg,zO (zQ l)=(zO l).map zQ
 | []=> by rw [zQ,zO,List.map_nil]
 | c::l=> by rw [zQ,zO,zO,zhS c,zbY l,List.map_append]
end
theorem zdD (d:List zg):zm (zQ d)=(zm d).map zQ:=by
 unfold zm;rw [zbY,List.map_cons]
mutual
theorem zhU:∀c:zg,yc (layC c)=yc c
 | .mk f t j d k=> by
  rw [layC,yc,yc];by_cases hf:f=2
  ·rw [if_pos hf,if_pos hf,zaN d]
  ·rw [if_neg hf,if_neg hf]
theorem zaN:∀l:List zg,zi (zQ l)=zi l
 | []=> by rw [zQ]
 | c::l=> by rw [zQ,zi,zi,zhU c,zaN l]
end
theorem zfH (c:zg):(layC c).joins=c.joins:=by
 obtain ⟨f,t,j,d,k⟩:=c;rw [layC]
 rfl
theorem zlT (g:List zg):gsig (zQ g)=gsig g:=by
 unfold gsig;rw [jC,List.flatMap_map]
 congr 1
 funext c
 rw [zfH]
theorem zjj (g:List zg):zS (zQ g)=zS g:=by
 unfold zS;rw [jC,List.flatMap_map]
 congr 1
 funext c
 rw [zfH]
theorem zcY (d:List zg):zl (zm (zQ d))=zl (zm d):=by
 rw [zdD];unfold zl;rw [List.flatMap_map]
 congr 1
 funext g
 exact zjj g
theorem zjr {d:List zg} (h:zaQ d) (hz:zZ (zQ d)<=zZ d):zaQ (zQ d):=by
 obtain ⟨U,c1,c2,c3,c4,c5⟩:=h;refine ⟨U,by omega,by rw [zcY];exact c2,zfI.2 ?_,?_,?_⟩
 ·have e:(zm (zQ d)).map gsig=(zm d).map gsig:=by
   rw [zdD,List.map_map]
   congr 1
   funext g
   exact zlT g
  rw [e];exact zfI.1 c3
 ·rw [zaN,zcY]
  exact c4
 ·rw [zaN]
  exact c5
def QF (q:Part):Prop:=q.shaped=true/\zeq q
theorem zii {p:Part}:Fit0 p↔p.size<=60/\NdP QF p:=by
 constructor
 ·rintro ⟨h1,h2⟩
  refine ⟨h1,fun q hq=> ?_⟩;rw [qJ 0 1] at hq;obtain ⟨y,hy,rfl⟩:=List.mem_map.1 hq;exact h2 y hy
 ·rintro ⟨h1,h2⟩
  exact ⟨h1,fun q hq=> h2 q.1 (by rw [qJ 0 1];exact List.mem_map.2 ⟨q,hq,rfl⟩)⟩
mutual
theorem zfL {P:Part->Prop}:∀t:Term,NdP P (.proc t)->∀a∈zG t,NdP P (.proc a)
 | .mk op t a d k,h,x,hx=> by
  rw [zG] at hx;by_cases h1:op=1
  ·rw [if_pos h1] at hx;simp at hx
  ·rw [if_neg h1] at hx
   by_cases h3:op=3
   ·rw [if_pos h3] at hx;exact zeN k (fun c hc=> h.part (qV hc)) x hx
   ·rw [if_neg h3] at hx
    rw [List.mem_singleton.1 hx];exact h
theorem zeN {P:Part->Prop}:∀l:List Term,(∀c∈l,NdP P (.proc c))->∀a∈qO l,NdP P (.proc a)
 | [],_,x,hx=> by simp [qO] at hx
 | t::l,h,x,hx=> by
  rw [qO] at hx;rcases List.mem_append.1 hx with hx | hx
  ·exact zfL t (h t (by simp)) x hx
  ·exact zeN l (fun c hc=> h c (by simp [hc])) x hx
end
theorem zmV:NdP QF (.proc (.mk 1 ByteArray.empty [] [] [])):=NdP.of_parts ⟨rfl,fun h=> by cases h⟩ (fun q hq=> by simp [Part.parts] at hq)
theorem zmF {k1 k2:Term} (h1:NdP QF (.proc k1)) (h2:NdP QF (.proc k2)):NdP QF (.proc (.mk 3 ByteArray.empty [] [] [k1,k2])):=
 NdP.of_parts ⟨rfl,fun h=> by cases h⟩ (fun q hq=> by
  simp [Part.parts] at hq;rcases hq with rfl | rfl
  ·exact h1
  ·exact h2)
theorem zgN:∀l:List Term,(∀a∈l,NdP QF (.proc a))->NdP QF (.proc (qw l))
 | [],_=> zmV
 | [t],h=> h t (by simp)
 | t::u::l,h=> zmF (h t (by simp)) (zgN (u::l) (fun a ha=> h a (by simp at ha ⊢;exact .inr ha)))
theorem QF.fine {p:Part} (h:NdP QF p):Fine p:=fun q hq=> (h q hq).1
mutual
theorem zlp:∀t:Term,NdP QF (.proc t)->NdP QF (.proc (layT t))
 | .mk op t a d k,h=> by
  rw [layT];exact zgN _ (zfL _ (zg3 op t a d k h (zbL d (fun c hc=> h.part (yu hc))) (zbO k (fun c hc=> h.part (qV hc)))))
theorem zbO:∀l:List Term,(∀c∈l,NdP QF (.proc c))->∀c∈qh l,NdP QF (.proc c)
 | [],_,x,hx=> by simp [qh] at hx
 | t::l,h,x,hx=> by
  rw [qh] at hx;rcases List.mem_cons.1 hx with rfl | hx
  ·exact zlp t (h t (by simp))
  ·exact zbO l (fun c hc=> h c (by simp [hc])) x hx
theorem zma:∀t:zg,NdP QF (.def_ t)->NdP QF (.def_ (layC t))
 | .mk f t j d k,h=> by
  rw [layC];have h1:=zbL d (fun c hc=> h.part (ji hc));have h2:=zbO k (fun c hc=> h.part (jl hc));refine NdP.of_parts ⟨zdF h.self.1,trivial⟩ (fun q hq=> ?_);rw [Part.parts] at hq;rcases List.mem_append.1 hq with hq | hq
  ·obtain ⟨c,hc,rfl⟩:=List.mem_map.1 hq;exact h1 c hc
  ·obtain ⟨c,hc,rfl⟩:=List.mem_map.1 hq;exact h2 c hc
theorem zbL:∀l:List zg,(∀c∈l,NdP QF (.def_ c))->∀c∈zQ l,NdP QF (.def_ c)
 | [],_,x,hx=> by simp [zQ] at hx
 | t::l,h,x,hx=> by
  rw [zQ] at hx;rcases List.mem_cons.1 hx with rfl | hx
  ·exact zma t (h t (by simp))
  ·exact zbL l (fun c hc=> h c (by simp [hc])) x hx
theorem zg3:∀(op:Int) (t:ByteArray) (a:List Exp) (d:List zg) (k:List Term),NdP QF (.proc (.mk op t a d k))->(∀c∈zQ d,NdP QF (.def_ c))->(∀c∈qh k,NdP QF (.proc c))->NdP QF (.proc (.mk op t a (zQ d) (qh k)))
 | op,t,a,d,k,h,h1,h2=> by
  have hz:zZ (zQ d)<=zZ d:=by
   have:=xF d (fun c hc=> QF.fine (h.part (yu hc)));unfold zZ;rw [zbu,zbu];exact this
  refine NdP.of_parts ⟨ze0 h.self.1,fun hop=> zjr (h.self.2 hop) hz⟩ (fun q hq=> ?_);rw [Part.parts] at hq;rcases List.mem_append.1 hq with hq | hq
  ·rcases List.mem_append.1 hq with hq | hq
   ·exact h.part (by rw [Part.parts];exact List.mem_append_left _ (List.mem_append_left _ hq))
   ·obtain ⟨c,hc,rfl⟩:=List.mem_map.1 hq;exact h1 c hc
  ·obtain ⟨c,hc,rfl⟩:=List.mem_map.1 hq;exact h2 c hc
end
theorem zlI {op:Int} {t:ByteArray} {a:List Exp} {d:List zg} {k:List Term} (h:Fit0 (.proc (.mk op t a d k))):Fit0 (.proc (.mk op t a (zQ d) (qh k))):=by
 obtain ⟨h1,h2⟩:=zii.1 h;have e1:=xF d (fun c hc=> QF.fine (h2.part (yu hc)));have e2:=zam k (fun c hc=> QF.fine (h2.part (qV hc)));have h1':szT (.mk op t a d k)<=60:=h1;refine zii.2 ⟨?_,zg3 op t a d k h2 (zbL d (fun c hc=> h2.part (yu hc))) (zbO k (fun c hc=> h2.part (qV hc)))⟩;show szT (.mk op t a (zQ d) (qh k))<=60;rw [zbv] at h1' ⊢;omega
end
end Go.Proofs.YtjmlaeofjjhfmaaGreat
