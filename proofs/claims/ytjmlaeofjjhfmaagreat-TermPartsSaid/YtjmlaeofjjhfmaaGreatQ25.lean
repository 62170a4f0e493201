/- Lemmas. -/
import Derived.Test.YtjmlaeofjjhfmaaGreatQ24
import Derived.Test.YtjmlaeofjjhfmaaGreatQ09
import Derived.Test.YtjmlaeofjjhfmaaGreatQ10
import Derived.Test.YtjmlaeofjjhfmaaGreatQ11
import Derived.Test.YtjmlaeofjjhfmaaGreatQ08
import Derived.Test.YtjmlaeofjjhfmaaGreatQ19
set_option linter.unusedVariables false
set_option linter.unusedSimpArgs false
set_option maxRecDepth 10000
set_option maxHeartbeats 16000000
namespace Go.Proofs.YtjmlaeofjjhfmaaGreat
section
open Go.RowKit Go.Shelf Go.Maps
theorem zk8 (w:World) (cs:List Value) (h:ze w.heap.size w cs exT):
  Calls Tryz.prog 23 #[.agg cs.toArray] w fun e w'=> e= .returned (.tuple #[.int .i64 13, .int .i64 0])/\Below w.heap.size w w':=
 zm8 w.heap.size w exT cs w (Below.keptC (ZF _ w)) (ZL _) xt h
theorem zl1 (w:World) (cs:List Value) (h:ze w.heap.size w cs exT):
  Calls Tryz.prog 24 #[.agg cs.toArray] w fun e w'=> e= .returned (.tuple #[.int .i64 5, .int .i64 0])/\Below w.heap.size w w':=
 zna w.heap.size w exT cs w (Below.keptC (ZF _ w)) (ZL _) xt h
theorem zmW (w:World) (cs:List Value) (h:ze w.heap.size w cs exT):
  Calls Tryz.prog 29 #[.agg cs.toArray] w fun e w'=> ∃v,e= .returned (.tuple #[v, .int .i64 0])/\zx w'.heap.size w' v [bB,bQ,bZ]/\Below w.heap.size w w':=by
 have q:=zno w.heap.size w exT cs w (Below.keptC (ZF _ w)) (ZL _) xt h [[98], [113], [122]] zl8
 have e:(([[98], [113], [122]]:List (List UInt8)).mergeSort leB).map mkB= [bB,bQ,bZ]:=by
  rw [List.mergeSort_of_pairwise (by simp [leB];exact ⟨⟨by decide,by decide⟩,by decide⟩)];rfl
 rw [e] at q;exact q
theorem zmG (w:World) (cs:List Value) (h:ze w.heap.size w cs exT):
  Calls Tryz.prog 30 #[.agg cs.toArray] w fun e w'=> ∃r1 r2,e= .returned (.tuple #[r1,r2, .int .i64 0])/\zx w'.heap.size w' r1 [bX,bY]/\zx w'.heap.size w' r2 [bP]/\Below w.heap.size w w':=
 zjB w.heap.size w bE [] [xO,xR] [jv] cs w (Below.keptC (ZF _ w)) (ZL _) xt h
theorem zmO (w:World) (cs es:List Value) (h:ze w.heap.size w cs exT) (he:zy w.heap.size w es (nmE bX)):
  Calls Tryz.prog 33 #[.agg cs.toArray, .string bB, .agg es.toArray] w fun e' w'=> ∃cs',e'= .returned (.tuple #[.agg cs'.toArray, .int .i64 0])/\ze w'.heap.size w' cs' putT/\Below w.heap.size w w':=by
 have e0:=znq;cases hR:yl ⟨.putting bB (nmE bX), [jp]⟩ (xy exT bB (nmE bX)) exT with
 | none=> rw [hR] at e0;cases e0
 | some y=>
  rw [hR] at e0;have ey:y.1=putT:=ZJ e0
  have q:=zih w.heap.size w exT bB (nmE bX) xt (by
   have ha:(zw 1 (.exp (nmE bX))).all (fun q=> q.1.shaped && decide (q.2<=12) && !defB q.1)=true:=by kernel_rfl
   refine ⟨by decide,fun q hq=> ?_⟩;have h2:=List.all_eq_true.1 ha q hq;simp only [Bool.and_eq_true,decide_eq_true_eq] at h2;exact ⟨h2.1.1,h2.1.2,zaY (by simpa using h2.2)⟩) (by kernel_rfl) (by decide) (by kernel_rfl) cs es h he w (Below.keptC (ZF _ w)) (ZL _)
   (some y) hR.symm (fun z hz=> by rw [<-ZJ hz,ey];exact zi2) 100 zlB (by rw [ziH];omega)
  refine q.mono ?_;rintro e' w' ⟨cs',h1,_,h2,h3⟩;exact ⟨cs',h1,by have:=h2 y rfl;rwa [ey] at this,h3⟩
theorem zmC (w:World) (cs es:List Value) (h:ze w.heap.size w cs exT) (he:zy w.heap.size w es (.mk 1 2 bE [])):
  Calls Tryz.prog 33 #[.agg cs.toArray, .string bQ, .agg es.toArray] w fun e' w'=> ∃v,e'= .returned (.tuple #[v, .int .i64 7])/\Below w.heap.size w w':=by
 have e0:=zl2;cases hR:yl ⟨.putting bQ (.mk 1 2 bE []), [jp]⟩ (xy exT bQ (.mk 1 2 bE [])) exT with
 | some y=> rw [hR] at e0;cases e0
 | none=>
  have q:=zih w.heap.size w exT bQ (.mk 1 2 bE []) xt (by
   have ha:(zw 1 (.exp (.mk 1 2 bE []))).all (fun q=> q.1.shaped && decide (q.2<=12) && !defB q.1)=true:=by kernel_rfl
   refine ⟨by decide,fun q hq=> ?_⟩;have h2:=List.all_eq_true.1 ha q hq;simp only [Bool.and_eq_true,decide_eq_true_eq] at h2;exact ⟨h2.1.1,h2.1.2,zaY (by simpa using h2.2)⟩) (by kernel_rfl) (by decide) (by kernel_rfl) cs es h he w (Below.keptC (ZF _ w)) (ZL _)
   none hR.symm (fun z hz=> by cases hz) 100 zlq (by rw [ziH];omega)
  refine q.mono ?_;rintro e' w' ⟨cs',h1,_,_,h3⟩;exact ⟨_,h1,h3⟩
theorem znt (w:World) (cs:List Value) (h:ze w.heap.size w cs exT):
  Calls Tryz.prog 42 #[.agg cs.toArray] w fun e' w'=> ∃cs',e'= .returned (.tuple #[.agg cs'.toArray, .int .i64 0])/\ze w'.heap.size w' cs' canT/\Below w.heap.size w w':=by
 have e0:=zm7;cases hR:yl ⟨.anew, [jp]⟩ (qE 60 (.proc exT)) exT with
 | none=> rw [hR] at e0;cases e0
 | some y=>
  rw [hR] at e0;have ey:y.1=canT:=ZJ e0;have q:=zkS w.heap.size w exT xt cs h w (Below.keptC (ZF _ w)) (ZL _) y hR 100 zms (by rw [ziH];omega);rw [ey] at q;exact q
theorem zlF (B:Nat) (u w:World) (cs:List Value) (hu:zh B u w) (hB:B<=w.heap.size) (h:ze B u cs jv):
  Calls Tryz.prog 45 #[.agg cs.toArray] w fun e' w'=> ∃a c,e'= .returned (.tuple #[.slice a 2 c, .int .i64 0])/\Below w.heap.size w w':=by
 have e0:=znn;cases hR:yl ⟨.outside, [jp]⟩ (fun _=> false) jv with
 | none=> rw [hR] at e0;cases e0
 | some y=>
  rw [hR] at e0;have ey:y.1=jv:=ZJ e0;have q:=zdv B u jv zhw cs h w hu hB y hR (by rw [ey];exact zkY) (by rw [ey];decide) (by rw [zmP];omega);refine q.mono ?_;rintro e' w' ⟨v,h1,h2,h3⟩;rw [ey,zlr] at h2;obtain ⟨a,c,rfl,_⟩:=h2;exact ⟨a,c,h1,h3⟩
theorem zmT (B:Nat) (w:World) (n:Int):zy B w [.int .i64 1, .int .i64 n, .string bE, .slice none 0 0] (.mk 1 n bE []):=by
 unfold zy;exact ⟨by decide,_,rfl,none,0,rfl,by decide, .inl rfl⟩
theorem zk5 (B:Nat) (w:World) (s:ByteArray) (hs:s.size<=maxLen):zy B w [.int .i64 2, .int .i64 0, .string s, .slice none 0 0] (nmE s):=by
 unfold nmE zy;exact ⟨hs,_,rfl,none,0,rfl,by decide, .inl rfl⟩
theorem ze3 {B:Nat} {w:World} {cs:List Value} {o:Int} {tx:ByteArray} {ar:List Exp} {c1 c2:zg} {kd:List Term} (h:ze B w cs (.mk o tx ar [c1,c2] kd)):
  ∃a0 n0 k0 a cap a2 n2 k2,cs= [.int .i64 o, .string tx, .slice a0 n0 k0, .slice a 2 cap, .slice a2 n2 k2]/\∃b off,a=some ⟨b,off,none⟩/\b < B/\zr B w b off [c1,c2]:=by
 unfold ze at h;obtain ⟨_,va,vd,vk,rfl,⟨_,_,rfl,_⟩,⟨a,cap,rfl,_,h0 | h0⟩,⟨_,_,rfl,_⟩⟩:=h
 ·cases h0
 ·exact ⟨_,_,_,a,cap,_,_,_,rfl,h0⟩
theorem zkk {B:Nat} {w:World} {cs:List Value} {o:Int} {tx:ByteArray} {ar:List Exp} {df:List zg} {k:Term} (h:ze B w cs (.mk o tx ar df [k])):
  ∃a0 n0 k0 a1 n1 k1 b off cap kc,cs= [.int .i64 o, .string tx, .slice a0 n0 k0, .slice a1 n1 k1, .slice (some ⟨b,off,none⟩) 1 cap]/\b < B/\zI w b off kc/\ze B w kc k:=by
 unfold ze at h;obtain ⟨_,va,vd,vk,rfl,⟨_,_,rfl,_⟩,⟨_,_,rfl,_⟩,⟨a,cap,rfl,_,h0 | ⟨b,off,rfl,hb,h0⟩⟩⟩:=h
 ·cases h0
 ·unfold zu at h0
  obtain ⟨⟨kc,h1,h2⟩,_⟩:=h0;exact ⟨_,_,_,_,_,_,b,off,cap,kc,rfl,hb,h1,h2⟩
theorem zjo {B:Nat} {w:World} {cs:List Value} {o:Int} {tx:ByteArray} {ar:List Exp} {df:List zg} {kd:List Term} (h:ze B w cs (.mk o tx ar df kd)):
  ∃a0 n0 k0 a1 n1 k1 a2 n2 k2,cs= [.int .i64 o, .string tx, .slice a0 n0 k0, .slice a1 n1 k1, .slice a2 n2 k2]:=by
 unfold ze at h;obtain ⟨_,va,vd,vk,rfl,⟨_,_,rfl,_⟩,⟨_,_,rfl,_⟩,⟨_,_,rfl,_⟩⟩:=h;exact ⟨_,_,_,_,_,_,_,_,_,rfl⟩
theorem zgQ (ss:List ByteArray) (w:World) (cs:Array Value) (hcs:cs=(ss.map Value.string).toArray) (hz:∀s∈ss,s.size<=maxLen) (hl:ss.length<=100) (n:Nat) (hn:n=ss.length):
  zx (w.alloc (.cells cs 9)).heap.size (w.alloc (.cells cs 9)) (.slice (some ⟨w.heap.size,0,none⟩) n n) ss:=by
 subst hn;refine ⟨_,_,rfl,by omega,hz,(by simp), .inr ⟨_,0,rfl,by simp,fun j hj=> ?_⟩⟩;have e:(w.alloc (.cells cs 9)).heap[w.heap.size]?=some (.cells cs 9):=ZN w _;subst hcs;unfold World.cell?;simp only;rw [e];simp [hj]
theorem zbp (w0 w:World) (v:Value) (s1 ss:List ByteArray) (h:zx w0.heap.size w0 v s1) (hb:Below w0.heap.size w0 w) (cs:Array Value) (hcs:cs=(ss.map Value.string).toArray) (hz:∀s∈ss,s.size<=maxLen) (hl:ss.length<=100) (n:Nat) (hn:n=ss.length) (hs:j3 s1 ss=true):
  Calls Tryz.prog 31 #[v, .slice (some ⟨w.heap.size,0,none⟩) n n] (w.alloc (.cells cs 9)) fun e w'=> e= .returned (.bool true)/\Below w.heap.size w w':=by
 have b1:Below w.heap.size w (w.alloc (.cells cs 9)):=ZQ w _;have q:=zeF _ v _ s1 ss _ (ZL _) ((h.later hb).later b1) (zgQ ss w cs hcs hz hl n hn);rw [hs] at q;refine q.mono ?_;rintro e w' ⟨h1,h2⟩;exact ⟨h1,b1.trans (h2.mono b1.size)⟩
theorem zlh (w:World):
  Calls Tryz.prog 18 #[.slice (some ⟨w.heap.size,0,none⟩) 2 2] (w.alloc (.cells #[.string ⟨#[97]⟩, .string ⟨#[99]⟩] 9)) fun e w'=> e= .returned (.string ⟨#[98]⟩)/\Below w.heap.size w w':=by
 have b1:Below w.heap.size w (w.alloc (.cells #[.string ⟨#[97]⟩, .string ⟨#[99]⟩] 9)):=ZQ w _;refine (zkW _ [bA,bC] _ (zgQ [bA,bC] w _ rfl (by decide) (by decide) 2 rfl) (by decide)).mono ?_;rintro e w' ⟨j,rfl,hj,hb⟩;refine ⟨?_,b1.trans (hb.mono b1.size)⟩
 have e:j=1:=hj.unique ⟨⟨by kernel_rfl,by kernel_rfl⟩,fun i hi=> by
  obtain rfl:i=0:=by omega
  intro h;have h2:=h.2;rw [show zF (List.map zb [bA,bC]) (strN 0)=true by kernel_rfl] at h2;cases h2⟩
 subst e
 rfl
theorem zkx (w:World):
  Calls Tryz.prog 14 #[] w fun e w'=> e= .returned (.bool true)/\Below w.heap.size w w':=by
 go_enter Tryz.func14,Tryz.ntmps14;go_wp2_with fail;refine (jA _).mono ?_;rintro e w1 ⟨c1,rfl,t1,b1⟩;go_wp2_with fail;refine (zk8 _ c1 t1).mono ?_;rintro e w2 ⟨rfl,b2⟩;go_wp2_with fail;refine (jA _).mono ?_;rintro e w3 ⟨c3,rfl,t3,b3⟩;go_wp2_with fail;refine (zl1 _ c3 t3).mono ?_;rintro e w4 ⟨rfl,b4⟩;go_wp2_with fail;refine (jA _).mono ?_;rintro e w5 ⟨c5,rfl,t5,b5⟩;go_wp2_with fail;refine (zmW _ c5 t5).mono ?_;rintro e w6 ⟨vl,rfl,sl,b6⟩;go_wp2_with fail;refine (jA _).mono ?_;rintro e w7 ⟨c7,rfl,t7,b7⟩;go_wp2_with fail;refine (zmG _ c7 t7).mono ?_;rintro e w8 ⟨vc,vp,rfl,sc,sp,b8⟩;have B06:Below w.heap.size w w6:=((((b1.trans (b2.mono b1.size)).trans (b3.mono (b1.trans (b2.mono b1.size)).size)).trans (b4.mono (by have:=b1.size;have:=b2.size;have:=b3.size;omega))).trans (b5.mono (by have:=b1.size;have:=b2.size;have:=b3.size;have:=b4.size;omega))).trans (b6.mono (by have:=b1.size;have:=b2.size;have:=b3.size;have:=b4.size;have:=b5.size;omega));have B68:Below w6.heap.size w6 w8:=(b7.trans (b8.mono b7.size));have B08:Below w.heap.size w w8:=B06.trans (B68.mono B06.size);clear b1 b2 b3 b4 b5 b6 b7 b8 t1 t3 t5 t7 B06;go_wp2_with fail;refine (zbp w6 w8 vl _ [bB,bQ,bZ] sl B68 _ rfl (by decide) (by decide) 3 rfl (by kernel_rfl)).mono ?_;rintro e w9 ⟨rfl,b9⟩;go_wp2_with fail;refine (zbp w8 w9 vc _ [bX,bY] sc b9 _ rfl (by decide) (by decide) 2 rfl (by kernel_rfl)).mono ?_;rintro e w10 ⟨rfl,b10⟩;go_wp2_with fail;refine (zbp w8 w10 vp _ [bP] sp (b9.trans (b10.mono b9.size)) _ rfl (by decide) (by decide) 1 rfl (by kernel_rfl)).mono ?_;rintro e w11 ⟨rfl,b11⟩;have B11:Below w.heap.size w w11:=((B08.trans (b9.mono B08.size)).trans (b10.mono (by have:=B08.size;have:=b9.size;omega))).trans (b11.mono (by have:=B08.size;have:=b9.size;have:=b10.size;omega));clear b9 b10 b11 B08 B68 sl sc sp;go_wp2_with fail;refine (jA _).mono ?_;rintro e w12 ⟨c12,rfl,t12,b12⟩;go_wp2_with fail;refine (zez _ _).mono ?_;rintro e w13 ⟨rfl,b13⟩;go_wp2_with fail;refine (zmO w13 c12 [.int .i64 2, .int .i64 0, .string bX, .slice none 0 0] (ze.below b13 b13.size _ _ t12) (zk5 _ _ _ (by decide))).mono ?_;rintro e w14 ⟨c14,rfl,t14,b14⟩;obtain ⟨p0,q0,r0,pa,pcap,p2,q2,r2,rfl,pb,poff,rfl,hpb,hpc⟩:=ze3 t14;have B14:Below w.heap.size w w14:=((B11.trans (b12.mono B11.size)).trans (b13.mono (by have:=B11.size;have:=b12.size;omega))).trans (b14.mono (by have:=B11.size;have:=b12.size;have:=b13.size;omega));clear b12 b13 b14 B11 t12 t14;obtain ⟨WP,hWP⟩:∃WP,WP=w14.alloc (.cells #[.int .i64 4, .string bE, .slice p0 q0 r0, .slice (some ⟨pb,poff,none⟩) 2 pcap, .slice p2 q2 r2] 33):=⟨_,rfl⟩;have BP:Below w14.heap.size w14 WP:=by rw [hWP];exact ZQ w14 _
 have kP:WP.heap[w14.heap.size]?=some (.cells #[.int .i64 4, .string bE, .slice p0 q0 r0, .slice (some ⟨pb,poff,none⟩) 2 pcap, .slice p2 q2 r2] 33):=by rw [hWP];exact ZN w14 _
 have zP:WP.heap.size=w14.heap.size + 1:=by rw [hWP];simp
 go_wp2_with fail;rw [<-hWP];clear hWP;refine (jA _).mono ?_;rintro e w15 ⟨c15,rfl,t15,b15⟩;go_wp2_with fail;refine (zmC w15 c15 [.int .i64 1, .int .i64 2, .string bE, .slice none 0 0] t15 (zmT _ _ _)).mono ?_;rintro e w16 ⟨vr,rfl,b16⟩;go_wp2_with fail;refine (jA _).mono ?_;rintro e w17 ⟨c17,rfl,t17,b17⟩;go_wp2_with fail;refine (znt w17 c17 t17).mono ?_;rintro e w18 ⟨c18,rfl,t18,b18⟩;obtain ⟨a0,a1,a2,ca,ccap,a3,a4,a5,rfl,cb,coff,rfl,hcb,hcc⟩:=ze3 t18;have BP18:Below WP.heap.size WP w18:=((b15.trans (b16.mono b15.size)).trans (b17.mono (by have:=b15.size;have:=b16.size;omega))).trans (b18.mono (by have:=b15.size;have:=b16.size;have:=b17.size;omega));clear b15 b16 b17 b18 t15 t17 t18;obtain ⟨WC,hWC⟩:∃WC,WC=w18.alloc (.cells #[.int .i64 4, .string bE, .slice a0 a1 a2, .slice (some ⟨cb,coff,none⟩) 2 ccap, .slice a3 a4 a5] 33):=⟨_,rfl⟩;have BC:Below w18.heap.size w18 WC:=by rw [hWC];exact ZQ w18 _
 have kC:WC.heap[w18.heap.size]?=some (.cells #[.int .i64 4, .string bE, .slice a0 a1 a2, .slice (some ⟨cb,coff,none⟩) 2 ccap, .slice a3 a4 a5] 33):=by rw [hWC];exact ZN w18 _
 have zC:WC.heap.size=w18.heap.size + 1:=by rw [hWC];simp
 go_wp2_with fail;rw [<-hWC];clear hWC;refine (jA _).mono ?_;rintro e w19 ⟨c19,rfl,t19,b19⟩;obtain ⟨d0,d1,d2,d3,d4,d5,kb,koff,kcap,kc,rfl,hkb,hkc,hkt⟩:=zkk t19;obtain ⟨f0,f1,f2,f3,f4,f5,gb,goff,gcap,rfl⟩:=zjo hkt;have l0:=hkc 0 (by simp);have l1:=hkc 1 (by simp);have l2:=hkc 2 (by simp);have l3:=hkc 3 (by simp);have l4:=hkc 4 (by simp);simp only [List.getElem_cons_zero,List.getElem_cons_succ,Nat.add_zero] at l0 l1 l2 l3 l4;have hfd:∀w:World,(Instr.field 33 (.agg #[.int .i64 4, .string bE, .slice d0 d1 d2, .slice d3 d4 d5, .slice (some ⟨kb,koff,none⟩) 1 kcap]) 4).run Tryz.prog w= .ok (.slice (some ⟨kb,koff,none⟩) 1 kcap) w:=fun _=> by kernel_rfl
 clear t19;go_wp2_with fail;refine (zlF w19.heap.size w19 w19 _ (Below.keptC (ZF _ w19)) (ZL _) hkt).mono ?_;rintro e w20 ⟨g0,g1,rfl,b20⟩;have B20:Below WC.heap.size WC w20:=b19.trans (b20.mono b19.size);have kC20:=(B20.block w18.heap.size (by omega)).trans kC;have BPC:Below WP.heap.size WP w20:=(BP18.trans (BC.mono BP18.size)).trans (B20.mono (by have:=BP18.size;have:=BC.size;omega));have kP20:=(BPC.block w14.heap.size (by omega)).trans kP;have B14_20:Below w14.heap.size w14 w20:=BP.trans (BPC.mono BP.size);have B18_20:Below w18.heap.size w18 w20:=BC.trans (B20.mono BC.size);have B00_20:Below w.heap.size w w20:=B14.trans (B14_20.mono B14.size);have m10:w20.cell? ⟨w14.heap.size,3,none⟩=some (.slice (some ⟨pb,poff,none⟩) 2 pcap):=by unfold World.cell?;simp only;rw [kP20];rfl
 have m11:w20.cell? ⟨w18.heap.size,3,none⟩=some (.slice (some ⟨cb,coff,none⟩) 2 ccap):=by unfold World.cell?;simp only;rw [kC20];rfl
 clear l0 l1 l2 l3 l4 hkc hkt hfd b19 b20 kP kC BP BC BP18 BPC;go_wp2_with fail;refine (zdb w14.heap.size w14 [jU,jX] zhh (by decide) (some ⟨pb,poff,none⟩) pcap (by decide) (.inr ⟨pb,poff,rfl,hpb,hpc⟩) w20 (Below.keptC B14_20) B14_20.size).mono ?_;rw [zkm];rintro e w21 ⟨vb,rfl,sb,b21⟩;go_wp2_with fail;refine (zbp w21 w21 vb _ [bC,bY,bP] sb (ZF _ _) _ rfl (by decide) (by decide) 3 rfl (by kernel_rfl)).mono ?_;rintro e w22 ⟨rfl,b22⟩;have b2022:=b21.trans (b22.mono b21.size)
 have m11':w22.cell? ⟨w18.heap.size,3,none⟩=some (.slice (some ⟨cb,coff,none⟩) 2 ccap):=by
  have z:=B20.size;have e:=(b2022.block w18.heap.size (by omega)).trans kC20;unfold World.cell?;simp only;rw [e];rfl
 go_wp2_with fail;refine (zdb w18.heap.size w18 [j1,jW] zmb (by decide) (some ⟨cb,coff,none⟩) ccap (by decide) (.inr ⟨cb,coff,rfl,hcb,hcc⟩) w22 (Below.keptC (B18_20.trans (b2022.mono B18_20.size))) (by have:=B18_20.size;have:=b2022.size;omega)).mono ?_;rw [zj2];rintro e w23 ⟨ve,rfl,se,b23⟩;go_wp2_with fail;refine (zbp w23 w23 ve _ [bA,bC,bD] se (ZF _ _) _ rfl (by decide) (by decide) 3 rfl (by kernel_rfl)).mono ?_;rintro e w24 ⟨rfl,b24⟩;go_wp2_with fail;refine (j4 _ _ (by decide)).mono ?_;rw [show qn ⟨#[97,98,99]⟩=true by kernel_rfl];rintro e w25 ⟨rfl,b25⟩;go_wp2_with fail;refine (j4 _ _ (by decide)).mono ?_;rw [show qn ⟨#[116,104,101,110]⟩=false by kernel_rfl];rintro e w26 ⟨rfl,b26⟩;go_wp2_with fail;refine (zlh w26).mono ?_;rintro e w27 ⟨rfl,b27⟩;go_wp2_with fail;go_ret;have z0:=B00_20.size;have z1:=b2022.size;have z2:=b23.size;have z3:=b24.size;have z4:=b25.size;have z5:=b26.size;exact ⟨rfl,(((((B00_20.trans (b2022.mono z0)).trans (b23.mono (by omega))).trans (b24.mono (by omega))).trans (b25.mono (by omega))).trans (b26.mono (by omega))).trans (b27.mono (by omega))⟩
theorem zcL (x:ByteArray):mkB (zb x)=x:=by cases x;simp [mkB,zb]
theorem zmX (n:Nat):strN n≠ []:=by
 intro h;have:=(jN n).1;rw [h] at this;cases this
theorem zjS {a b:ByteArray} (h:zb a=zb b):a=b:=by rw [<-zcL a,h,zcL]
def isT (t:ByteArray) (k:List UInt8):Bool:= !(zb t).isEmpty && k==zb t
def bndP (p:Part) (k:List UInt8):Bool:=(zR p).any (fun b=> k==zb b)
mutual
def fE:Exp->List UInt8->Bool
 | .mk _ _ t kids,k=> fEs kids k || isT t k
def fEs:List Exp->List UInt8->Bool
 | [],_=> false
 | e::es,k=> fE e k || fEs es k
end
mutual
def fC:zg->List UInt8->Bool
 | .mk f t j d ks,k=> (fCs d k || fTs ks k) && !bndP (.def_ (.mk f t j d ks)) k
def fCs:List zg->List UInt8->Bool
 | [],_=> false
 | c::cs,k=> fC c k || fCs cs k
def fT:Term->List UInt8->Bool
 | .mk o t a d ks,k=> ((fEs a k || fCs d k || fTs ks k) && !bndP (.proc (.mk o t a d ks)) k) || isT t k
def fTs:List Term->List UInt8->Bool
 | [],_=> false
 | t::ts,k=> fT t k || fTs ts k
end
def fP:Part->List UInt8->Bool
 | .proc t=> fT t
 | .exp e=> fE e
 | .def_ c=> fC c
mutual
def okE:Exp->Prop
 | .mk op _ t kids=> (op=2->kids= []/\t.size≠0)/\(op≠2->t.size=0)/\okEs kids
def okEs:List Exp->Prop
 | []=> True
 | e::es=> okE e/\okEs es
end
def zaF (x:ByteArray):List Frame->Option ByteArray
 | []=> none
 | f::fs=> match f (zb x) with
  | some n=> some n
  | none=> zaF x fs
structure FrOk (f:Frame) (U U1:Used) (B ren:List ByteArray):Prop where
 is:∀x,(f x).isSome=true↔x∈B.map zb
 what:∀n c,f (zb n)=some c->(c=n/\n ∉ ren)∨(U (zb c)=false/\U1 (zb c)=true/\c.size≠0)
 more:∀k,U k=true->U1 k=true
theorem zh5 {U:Used} {m:Nat} (h:Cov U m) (hm:m<=4900):U (choose U)=false:=by
 obtain ⟨j,hj,hg⟩:=h.free hm;have h1:=(zaA U 5000 0 j (by omega) (by omega) hg).1;unfold jZ at h1;unfold choose;rw [Bool.and_eq_true] at h1;simpa using h1.2
theorem zfU:∀(B:List ByteArray) (f:Frame) (x:List UInt8),(B.foldl zak f) x=if x∈B.map zb then some (mkB x) else f x
 | [],f,x=> by simp
 | b::B,f,x=> by
  rw [List.foldl_cons,zfU B];by_cases h:x∈B.map zb
  ·rw [if_pos h,if_pos (by rw [List.map_cons];exact List.mem_cons_of_mem _ h)]
  ·rw [if_neg h]
   by_cases h2:x=zb b
   ·rw [if_pos (by rw [List.map_cons];exact h2▸List.mem_cons_self),zak,upd,if_pos (by simpa using h2),h2,zcL]
   ·rw [if_neg (by rw [List.map_cons,List.mem_cons];exact fun h3=> h3.elim h2 h),zak,upd,if_neg (by simpa using h2)]
def Im (v:Env) (A:List UInt8->Bool) (k:List UInt8):Prop:=∃n:ByteArray,A (zb n)=true/\fE (v.becomes n) k=true
structure Fit (W:List UInt8->Prop) (v:Env) (U:Used) (A:List UInt8->Bool):Prop where
 used:∀n k,A (zb n)=true->fE (v.becomes n) k=true->U k=true
 kept:v.base≠ .anew->∀b,W b->U b=true/\∀n c,zaF n v.frames=some c->c=n∨zb c≠b
theorem Fit.less {W:List UInt8->Prop} {v:Env} {U U':Used} {A A':List UInt8->Bool} (h:Fit W v U A) (hU:∀k,U k=true->U' k=true) (hA:∀k,A' k=true->A k=true):Fit W v U' A':=
 ⟨fun n k h1 h2=> hU k (h.used n k (hA _ h1) h2),fun hb b hW=> ⟨hU b (h.kept hb b hW).1,(h.kept hb b hW).2⟩⟩
structure InOk (W:List UInt8->Prop) (v:Env) (U:Used) (p:Part) (i:Env×Used) (m:Nat):Prop where
 base:i.1.base=v.base
 more:∀k,U k=true->i.2 k=true
 cov:Cov i.2 (m + (zR p).length)
 old:∀n,bndP p (zb n)=false->zaF n i.1.frames=zaF n v.frames
 new:∀n,bndP p (zb n)=true->∃c,zaF n i.1.frames=some c/\c.size≠0/\i.2 (zb c)=true
 fits:∀A:List UInt8->Bool,(∀k,A k=true->bndP p k=true∨fP p k=true)->Fit W i.1 i.2 A
 apart:∀n b c k,fP p (zb n)=true->bndP p (zb n)=false->bndP p (zb b)=true->zaF b i.1.frames=some c->fE (v.becomes n) k=true->k≠zb c
def TI (v:Env) (A B:List ByteArray):Prop:=∀x,x∈B↔∃y∈A,yS v y=some x
theorem TI.nil (v:Env):TI v [] []:=fun x=> by simp
theorem TI.cons {v:Env} {a b:ByteArray} {A B:List ByteArray} (h:yS v a=some b) (hA:TI v A B):TI v (a::A) (b::B):=fun x=> by
 rw [List.mem_cons,hA x];constructor
 ·rintro (rfl | ⟨y,h1,h2⟩)
  ·exact ⟨a,by simp,h⟩
  ·exact ⟨y,by simp [h1],h2⟩
 ·rintro ⟨y,h1,h2⟩
  rcases List.mem_cons.1 h1 with rfl | h1
  ·rw [h] at h2;cases h2;exact .inl rfl
  ·exact .inr ⟨y,h1,h2⟩
theorem TI.append {v:Env} {A B C D:List ByteArray} (h:TI v A B) (h':TI v C D):TI v (A ++ C) (B ++ D):=fun x=> by
 rw [List.mem_append,h x,h' x];constructor
 ·rintro (⟨y,h1,h2⟩ | ⟨y,h1,h2⟩)
  ·exact ⟨y,by simp [h1],h2⟩
  ·exact ⟨y,by simp [h1],h2⟩
 ·rintro ⟨y,h1,h2⟩
  rcases List.mem_append.1 h1 with h1 | h1
  ·exact .inl ⟨y,h1,h2⟩
  ·exact .inr ⟨y,h1,h2⟩
def txC (c:zg):List ByteArray:=c.joins.map (·.text) ++ zl (yk c)
theorem ze2 (a b:List (List zg)):zl (a ++ b)=zl a ++ zl b:=by unfold zl;rw [List.flatMap_append]
theorem zel (d:List zg):zl (zm d)=zS d ++ zl (zO d):=by
 unfold zm zl;rw [List.flatMap_cons]
theorem Im.or {v:Env} {A B:List UInt8->Bool} {k:List UInt8}:Im v (fun k=> A k || B k) k↔Im v A k∨Im v B k:=by
 unfold Im;constructor
 ·rintro ⟨n,h1,h2⟩
  rw [Bool.or_eq_true] at h1;exact h1.elim (fun h=> .inl ⟨n,h,h2⟩) (fun h=> .inr ⟨n,h,h2⟩)
 ·rintro (⟨n,h1,h2⟩ | ⟨n,h1,h2⟩)
  ·exact ⟨n,by simp [h1],h2⟩
  ·exact ⟨n,by simp [h1],h2⟩
theorem zcU {s:ByteArray} (h:qn s=true):s.size≠0:=by
 unfold qn yJ at h;intro h0;rw [xd h0] at h
 revert h
 decide
def NdP (P:Part->Prop) (p:Part):Prop:=∀q∈(zw 0 p).map (·.1),P q
theorem NdP.part {P:Part->Prop} {p q:Part} (h:NdP P p) (hq:q∈p.parts):NdP P q:=by
 intro x hx;rw [qJ 0 1] at hx;refine h x ?_;rw [zv];obtain ⟨y,hy,rfl⟩:=List.mem_map.1 hx;exact List.mem_map.2 ⟨y,List.mem_cons_of_mem _ (jh hq hy),rfl⟩
theorem NdP.self {P:Part->Prop} {p:Part} (h:NdP P p):P p:=h p (by rw [zv];simp)
theorem za3 {op n:Int} {t:ByteArray} {kids:List Exp} (h:(Part.exp (.mk op n t kids)).shaped=true):(op=2->n=0/\kids= []/\t.size≠0)/\(op≠2->t.size=0):=by
 simp only [Part.shaped,j8,Bool.or_eq_true,Bool.and_eq_true,beq_iff_eq,decide_eq_true_eq,List.length_eq_zero_iff] at h;rcases h with (⟨⟨⟨⟨h1,_⟩,_⟩,h2⟩,_⟩ | ⟨⟨⟨h1,h2⟩,h3⟩,h4⟩) | ⟨⟨⟨⟨h1,h2⟩,_⟩,h3⟩,_⟩
 ·exact ⟨fun h=> by omega,fun _=> h2⟩
 ·exact ⟨fun _=> ⟨h2,h4,zcU h3⟩,fun h=> absurd h1 h⟩
 ·exact ⟨fun h=> by omega,fun _=> h3⟩
theorem zeR {ss:List ByteArray} (h:jF ss=true):∀x∈ss,x.size≠0:=by
 intro x hx;unfold jF at h;rw [Bool.and_eq_true,List.all_eq_true] at h;exact zcU (h.1 x hx)
theorem zfW:∀js:List Msg,(∀j∈js,j.names.length<=3)->(js.flatMap (·.names)).length<=3 * js.length
 | [],_=> by simp
 | j::js,h=> by
  have h1:=h j (by simp);have h2:=zfW js (fun x hx=> h x (by simp [hx]));rw [List.flatMap_cons,List.length_append,List.length_cons];omega
theorem zgp {f:Int} {t:ByteArray} {j:List Msg} {d:List zg} {k:List Term} (h:(Part.def_ (.mk f t j d k)).shaped=true):
  (f=2->j= []/\t.size≠0)/\(f≠2->d= [])/\(∀x∈j.flatMap (·.names),x.size≠0)/\(∀x∈j.map (·.text),x.size≠0)/\j.length<=3/\(j.flatMap (·.names)).length<=9:=by
 simp only [Part.shaped,yB,Bool.or_eq_true,Bool.and_eq_true,beq_iff_eq,decide_eq_true_eq,List.length_eq_zero_iff] at h;rcases h with ⟨⟨⟨⟨h1,_⟩,h2⟩,h3⟩,_⟩ | ⟨⟨⟨⟨h1,h2⟩,h3⟩,_⟩,_⟩
 ·unfold qH at h2
  simp only [Bool.and_eq_true,decide_eq_true_eq,List.all_eq_true] at h2;obtain ⟨⟨⟨⟨_,h4⟩,h5⟩,h6⟩,h7⟩:=h2;have:=zfW j h5;exact ⟨fun h=> by omega,fun _=> h3,zeR h7,zeR h6,h4,by omega⟩
 ·subst h3
  exact ⟨fun _=> ⟨rfl,zcU h2⟩,fun h=> absurd h1 h,by simp,by simp,by simp,by simp⟩
theorem zda {o:Int} {t:ByteArray} {a:List Exp} {d:List zg} {k:List Term} {e:Exp} (h:e∈a):Part.exp e∈(Part.proc (.mk o t a d k)).parts:=by
 rw [Part.parts];exact List.mem_append_left _ (List.mem_append_left _ (List.mem_map.2 ⟨e,h,rfl⟩))
theorem yu {o:Int} {t:ByteArray} {a:List Exp} {d:List zg} {k:List Term} {e:zg} (h:e∈d):Part.def_ e∈(Part.proc (.mk o t a d k)).parts:=by
 rw [Part.parts];exact List.mem_append_left _ (List.mem_append_right _ (List.mem_map.2 ⟨e,h,rfl⟩))
theorem qV {o:Int} {t:ByteArray} {a:List Exp} {d:List zg} {k:List Term} {e:Term} (h:e∈k):Part.proc e∈(Part.proc (.mk o t a d k)).parts:=by
 rw [Part.parts];exact List.mem_append_right _ (List.mem_map.2 ⟨e,h,rfl⟩)
theorem ji {f:Int} {t:ByteArray} {j:List Msg} {d:List zg} {k:List Term} {e:zg} (h:e∈d):Part.def_ e∈(Part.def_ (.mk f t j d k)).parts:=by
 rw [Part.parts];exact List.mem_append_left _ (List.mem_map.2 ⟨e,h,rfl⟩)
theorem jl {f:Int} {t:ByteArray} {j:List Msg} {d:List zg} {k:List Term} {e:Term} (h:e∈k):Part.proc e∈(Part.def_ (.mk f t j d k)).parts:=by
 rw [Part.parts];exact List.mem_append_right _ (List.mem_map.2 ⟨e,h,rfl⟩)
theorem ziO {o n:Int} {t:ByteArray} {k:List Exp} {e:Exp} (h:e∈k):Part.exp e∈(Part.exp (.mk o n t k)).parts:=by
 rw [Part.parts];exact List.mem_map.2 ⟨e,h,rfl⟩
theorem NdP.mono {P Q:Part->Prop} {p:Part} (h:NdP P p) (hQ:∀q,P q->Q q):NdP Q p:=fun q hq=> hQ q (h q hq)
mutual
theorem zni:∀e:Exp,NdP (fun q=> q.shaped=true) (.exp e)->okE e/\xr e=true
 | .mk op n t kids,h=> by
  obtain ⟨h1,h2⟩:=za3 h.self;obtain ⟨h3,h4⟩:=zfj kids (fun e he=> h.part (ziO he));unfold okE xr;refine ⟨⟨fun ho=> (h1 ho).2,h2,h3⟩,?_⟩;rw [h4,Bool.and_true];by_cases ho:op=2
  ·obtain ⟨a,b,_⟩:=h1 ho
   rw [a,b];simp
  ·simp [ho]
theorem zfj:∀es:List Exp,(∀e∈es,NdP (fun q=> q.shaped=true) (.exp e))->okEs es/\xK es=true
 | [],_=> by unfold okEs xK;exact ⟨trivial,rfl⟩
 | e::es,h=> by
  obtain ⟨h1,h2⟩:=zni e (h e (by simp));obtain ⟨h3,h4⟩:=zfj es (fun x hx=> h x (by simp [hx]));unfold okEs xK;exact ⟨⟨h1,h3⟩,by rw [h2,h4];rfl⟩
end
theorem zhV (c:zg) (cs:List zg):(zl (zm (c::cs))).length=(txC c).length + (zl (zm cs)).length:=by
 rw [zel,zel,zO,ze2];have:zS (c::cs)=c.joins.map (·.text) ++ zS cs:=by unfold zS;rw [List.flatMap_cons]
 rw [this];unfold txC;simp only [List.length_append];omega
mutual
theorem znh:∀(c:zg) (lev:Nat),NdP (fun q=> q.shaped=true) (.def_ c)->bcC c + (txC c).length + (yc c).length<=13 * (qF lev c).length
 | .mk f t j d k,lev,h=> by
  obtain ⟨h1,h2,_,_,h3,h4⟩:=zgp h.self;have hd:=zdo d (lev + 1) (fun c hc=> h.part (ji hc));have hk:=zff k (lev + 1) (fun c hc=> h.part (jl hc));rw [bcC,qF,List.length_cons,List.length_append];have hb:zR (.def_ (.mk f t j d k))=j.flatMap (·.names):=rfl;rw [hb];unfold txC yk yc;by_cases hf:f=2
  ·rw [if_pos hf,if_pos hf]
   obtain ⟨rfl,_⟩:=h1 hf;have e:([]:List Msg).flatMap (·.names)= []:=rfl;have e2:(zg.mk f t [] d k).joins= []:=rfl;rw [e,e2,List.length_cons];have e3:zl (d::zO d)=zl (zm d):=rfl;rw [e3];simp only [List.map_nil,List.nil_append,List.length_nil];omega
  ·rw [if_neg hf,if_neg hf]
   obtain rfl:=h2 hf;have e2:(zg.mk f t j [] k).joins=j:=rfl;rw [e2];simp only [zl,List.flatMap_nil,List.append_nil,List.length_map,List.length_nil,bcCs,qu];omega
theorem zdo:∀(d:List zg) (lev:Nat),(∀c∈d,NdP (fun q=> q.shaped=true) (.def_ c))->bcCs d + (zl (zm d)).length + (zi d).length<=13 * (qu lev d).length
 | [],lev,_=> by simp [bcCs,qu,zm,zO,zl,zS,zi]
 | c::cs,lev,h=> by
  have h1:=znh c lev (h c (by simp));have h2:=zdo cs lev (fun x hx=> h x (by simp [hx]));rw [bcCs,qu,zi,List.length_append,List.length_append,zhV];omega
theorem zed:∀(t:Term) (lev:Nat),NdP (fun q=> q.shaped=true) (.proc t)->bcT t<=13 * (qL lev t).length
 | .mk o t a d k,lev,h=> by
  have hd:=zdo d (lev + 1) (fun c hc=> h.part (yu hc));have hk:=zff k (lev + 1) (fun c hc=> h.part (qV hc));rw [bcT,qL,List.length_cons,List.length_append,List.length_append];have e:zR (.proc (.mk o t a d k))=if o=4 then qb d ++ zi d else []:=rfl
  have hb:(zR (.proc (.mk o t a d k))).length<=(zl (zm d)).length + (zi d).length:=by
   rw [e]
   split
   ·rw [List.length_append]
    have:=yR [] (zl (zm d));unfold qb;simp only [List.length_nil,Nat.zero_add] at this;omega
   ·simp
  omega
theorem zff:∀(d:List Term) (lev:Nat),(∀c∈d,NdP (fun q=> q.shaped=true) (.proc c))->bcTs d<=13 * (yj lev d).length
 | [],lev,_=> by simp [bcTs]
 | c::cs,lev,h=> by
  have h1:=zed c lev (h c (by simp));have h2:=zff cs lev (fun x hx=> h x (by simp [hx]));rw [bcTs,yj,List.length_append];omega
end
end
end Go.Proofs.YtjmlaeofjjhfmaaGreat
