/- Lemmas. -/
import Derived.Test.YtjmlaeofjjhfmaaGreatS24
import Derived.Test.YtjmlaeofjjhfmaaGreatS09
import Derived.Test.YtjmlaeofjjhfmaaGreatS10
import Derived.Test.YtjmlaeofjjhfmaaGreatS11
import Derived.Test.YtjmlaeofjjhfmaaGreatS08
import Derived.Test.YtjmlaeofjjhfmaaGreatS19
set_option linter.unusedVariables false
set_option linter.unusedSimpArgs false
set_option maxRecDepth 10000
set_option maxHeartbeats 16000000
namespace Go.Proofs.YtjmlaeofjjhfmaaGreat
section
open Go.RowKit Go.Shelf Go.Maps
theorem zk8 (w:World) (cs:List Value) (h:ze w.heap.size w cs exT):
  Calls Tryz.prog 23 #[.agg cs.toArray] w fun e w'=> e= .returned (.tuple #[.int .i64 13, .int .i64 0])/\Below w.heap.size w w':=
 zm8 w.heap.size w exT cs w (Below.keptC (ZF _ w)) (ZL _) xt h
theorem zl1 (w:World) (cs:List Value) (h:ze w.heap.size w cs exT):
  Calls Tryz.prog 24 #[.agg cs.toArray] w fun e w'=> e= .returned (.tuple #[.int .i64 5, .int .i64 0])/\Below w.heap.size w w':=
 zna w.heap.size w exT cs w (Below.keptC (ZF _ w)) (ZL _) xt h
theorem zmW (w:World) (cs:List Value) (h:ze w.heap.size w cs exT):
  Calls Tryz.prog 29 #[.agg cs.toArray] w fun e w'=> ∃v,e= .returned (.tuple #[v, .int .i64 0])/\zx w'.heap.size w' v [bB,bQ,bZ]/\Below w.heap.size w w':=by
 have q:=zno w.heap.size w exT cs w (Below.keptC (ZF _ w)) (ZL _) xt h [[98], [113], [122]] zl8
 have e:(([[98], [113], [122]]:List (List UInt8)).mergeSort leB).map mkB= [bB,bQ,bZ]:=by
  rw [List.mergeSort_of_pairwise (by simp [leB];exact ⟨⟨by decide,by decide⟩,by decide⟩)];rfl
 rw [e] at q;exact q
theorem zmG (w:World) (cs:List Value) (h:ze w.heap.size w cs exT):
  Calls Tryz.prog 30 #[.agg cs.toArray] w fun e w'=> ∃r1 r2,e= .returned (.tuple #[r1,r2, .int .i64 0])/\zx w'.heap.size w' r1 [bX,bY]/\zx w'.heap.size w' r2 [bP]/\Below w.heap.size w w':=
 zjB w.heap.size w bE [] [xO,xR] [jv] cs w (Below.keptC (ZF _ w)) (ZL _) xt h
theorem zmO (w:World) (cs es:List Value) (h:ze w.heap.size w cs exT) (he:zy w.heap.size w es (nmE bX)):
  Calls Tryz.prog 33 #[.agg cs.toArray, .string bB, .agg es.toArray] w fun e' w'=> ∃cs',e'= .returned (.tuple #[.agg cs'.toArray, .int .i64 0])/\ze w'.heap.size w' cs' putT/\Below w.heap.size w w':=by
 have e0:=znq;cases hR:yl ⟨.putting bB (nmE bX), [jp]⟩ (xy exT bB (nmE bX)) exT with
 | none=> rw [hR] at e0;cases e0
 | some y=>
  rw [hR] at e0;have ey:y.1=putT:=ZJ e0
  have q:=zih w.heap.size w exT bB (nmE bX) xt (by
   have ha:(zw 1 (.exp (nmE bX))).all (fun q=> q.1.shaped && decide (q.2<=12) && !defB q.1)=true:=by kernel_rfl
   refine ⟨by decide,fun q hq=> ?_⟩;have h2:=List.all_eq_true.1 ha q hq;simp only [Bool.and_eq_true,decide_eq_true_eq] at h2;exact ⟨h2.1.1,h2.1.2,zaY (by simpa using h2.2)⟩) (by kernel_rfl) (by decide) (by kernel_rfl) cs es h he w (Below.keptC (ZF _ w)) (ZL _)
   (some y) hR.symm (fun z hz=> by rw [<-ZJ hz,ey];exact zi2) 100 zlB (by rw [ziH];omega)
  refine q.mono ?_;rintro e' w' ⟨cs',h1,_,h2,h3⟩;exact ⟨cs',h1,by have:=h2 y rfl;rwa [ey] at this,h3⟩
theorem zmC (w:World) (cs es:List Value) (h:ze w.heap.size w cs exT) (he:zy w.heap.size w es (.mk 1 2 bE [])):
  Calls Tryz.prog 33 #[.agg cs.toArray, .string bQ, .agg es.toArray] w fun e' w'=> ∃v,e'= .returned (.tuple #[v, .int .i64 7])/\Below w.heap.size w w':=by
 have e0:=zl2;cases hR:yl ⟨.putting bQ (.mk 1 2 bE []), [jp]⟩ (xy exT bQ (.mk 1 2 bE [])) exT with
 | some y=> rw [hR] at e0;cases e0
 | none=>
  have q:=zih w.heap.size w exT bQ (.mk 1 2 bE []) xt (by
   have ha:(zw 1 (.exp (.mk 1 2 bE []))).all (fun q=> q.1.shaped && decide (q.2<=12) && !defB q.1)=true:=by kernel_rfl
   refine ⟨by decide,fun q hq=> ?_⟩;have h2:=List.all_eq_true.1 ha q hq;simp only [Bool.and_eq_true,decide_eq_true_eq] at h2;exact ⟨h2.1.1,h2.1.2,zaY (by simpa using h2.2)⟩) (by kernel_rfl) (by decide) (by kernel_rfl) cs es h he w (Below.keptC (ZF _ w)) (ZL _)
   none hR.symm (fun z hz=> by cases hz) 100 zlq (by rw [ziH];omega)
  refine q.mono ?_;rintro e' w' ⟨cs',h1,_,_,h3⟩;exact ⟨_,h1,h3⟩
theorem znt (w:World) (cs:List Value) (h:ze w.heap.size w cs exT):
  Calls Tryz.prog 42 #[.agg cs.toArray] w fun e' w'=> ∃cs',e'= .returned (.tuple #[.agg cs'.toArray, .int .i64 0])/\ze w'.heap.size w' cs' canT/\Below w.heap.size w w':=by
 have e0:=zm7;cases hR:yl ⟨.anew, [jp]⟩ (qE 60 (.proc exT)) exT with
 | none=> rw [hR] at e0;cases e0
 | some y=>
  rw [hR] at e0;have ey:y.1=canT:=ZJ e0;have q:=zkS w.heap.size w exT xt cs h w (Below.keptC (ZF _ w)) (ZL _) y hR 100 zms (by rw [ziH];omega);rw [ey] at q;exact q
theorem zlF (B:Nat) (u w:World) (cs:List Value) (hu:zh B u w) (hB:B<=w.heap.size) (h:ze B u cs jv):
  Calls Tryz.prog 45 #[.agg cs.toArray] w fun e' w'=> ∃a c,e'= .returned (.tuple #[.slice a 2 c, .int .i64 0])/\Below w.heap.size w w':=by
 have e0:=znn;cases hR:yl ⟨.outside, [jp]⟩ (fun _=> false) jv with
 | none=> rw [hR] at e0;cases e0
 | some y=>
  rw [hR] at e0;have ey:y.1=jv:=ZJ e0;have q:=zdv B u jv zhw cs h w hu hB y hR (by rw [ey];exact zkY) (by rw [ey];decide) (by rw [zmP];omega);refine q.mono ?_;rintro e' w' ⟨v,h1,h2,h3⟩;rw [ey,zlr] at h2;obtain ⟨a,c,rfl,_⟩:=h2;exact ⟨a,c,h1,h3⟩
theorem zmT (B:Nat) (w:World) (n:Int):zy B w [.int .i64 1, .int .i64 n, .string bE, .slice none 0 0] (.mk 1 n bE []):=by
 unfold zy;exact ⟨by decide,_,rfl,none,0,rfl,by decide, .inl rfl⟩
theorem zk5 (B:Nat) (w:World) (s:ByteArray) (hs:s.size<=maxLen):zy B w [.int .i64 2, .int .i64 0, .string s, .slice none 0 0] (nmE s):=by
 unfold nmE zy;exact ⟨hs,_,rfl,none,0,rfl,by decide, .inl rfl⟩
theorem ze3 {B:Nat} {w:World} {cs:List Value} {o:Int} {tx:ByteArray} {ar:List Exp} {c1 c2:zg} {kd:List Term} (h:ze B w cs (.mk o tx ar [c1,c2] kd)):
  ∃a0 n0 k0 a cap a2 n2 k2,cs= [.int .i64 o, .string tx, .slice a0 n0 k0, .slice a 2 cap, .slice a2 n2 k2]/\∃b off,a=some ⟨b,off,none⟩/\b < B/\zr B w b off [c1,c2]:=by
 unfold ze at h;obtain ⟨_,va,vd,vk,rfl,⟨_,_,rfl,_⟩,⟨a,cap,rfl,_,h0 | h0⟩,⟨_,_,rfl,_⟩⟩:=h
 ·cases h0
 ·exact ⟨_,_,_,a,cap,_,_,_,rfl,h0⟩
theorem zkk {B:Nat} {w:World} {cs:List Value} {o:Int} {tx:ByteArray} {ar:List Exp} {df:List zg} {k:Term} (h:ze B w cs (.mk o tx ar df [k])):
  ∃a0 n0 k0 a1 n1 k1 b off cap kc,cs= [.int .i64 o, .string tx, .slice a0 n0 k0, .slice a1 n1 k1, .slice (some ⟨b,off,none⟩) 1 cap]/\b < B/\zI w b off kc/\ze B w kc k:=by
 unfold ze at h;obtain ⟨_,va,vd,vk,rfl,⟨_,_,rfl,_⟩,⟨_,_,rfl,_⟩,⟨a,cap,rfl,_,h0 | ⟨b,off,rfl,hb,h0⟩⟩⟩:=h
 ·cases h0
 ·unfold zu at h0
  obtain ⟨⟨kc,h1,h2⟩,_⟩:=h0;exact ⟨_,_,_,_,_,_,b,off,cap,kc,rfl,hb,h1,h2⟩
theorem zjo {B:Nat} {w:World} {cs:List Value} {o:Int} {tx:ByteArray} {ar:List Exp} {df:List zg} {kd:List Term} (h:ze B w cs (.mk o tx ar df kd)):
  ∃a0 n0 k0 a1 n1 k1 a2 n2 k2,cs= [.int .i64 o, .string tx, .slice a0 n0 k0, .slice a1 n1 k1, .slice a2 n2 k2]:=by
 unfold ze at h;obtain ⟨_,va,vd,vk,rfl,⟨_,_,rfl,_⟩,⟨_,_,rfl,_⟩,⟨_,_,rfl,_⟩⟩:=h;exact ⟨_,_,_,_,_,_,_,_,_,rfl⟩
theorem zgQ (ss:List ByteArray) (w:World) (cs:Array Value) (hcs:cs=(ss.map Value.string).toArray) (hz:∀s∈ss,s.size<=maxLen) (hl:ss.length<=100) (n:Nat) (hn:n=ss.length):
  zx (w.alloc (.cells cs 9)).heap.size (w.alloc (.cells cs 9)) (.slice (some ⟨w.heap.size,0,none⟩) n n) ss:=by
 subst hn;refine ⟨_,_,rfl,by omega,hz,(by simp), .inr ⟨_,0,rfl,by simp,fun j hj=> ?_⟩⟩;have e:(w.alloc (.cells cs 9)).heap[w.heap.size]?=some (.cells cs 9):=ZN w _;subst hcs;unfold World.cell?;simp only;rw [e];simp [hj]
theorem zbp (w0 w:World) (v:Value) (s1 ss:List ByteArray) (h:zx w0.heap.size w0 v s1) (hb:Below w0.heap.size w0 w) (cs:Array Value) (hcs:cs=(ss.map Value.string).toArray) (hz:∀s∈ss,s.size<=maxLen) (hl:ss.length<=100) (n:Nat) (hn:n=ss.length) (hs:j3 s1 ss=true):
  Calls Tryz.prog 31 #[v, .slice (some ⟨w.heap.size,0,none⟩) n n] (w.alloc (.cells cs 9)) fun e w'=> e= .returned (.bool true)/\Below w.heap.size w w':=by
 have b1:Below w.heap.size w (w.alloc (.cells cs 9)):=ZQ w _;have q:=zeF _ v _ s1 ss _ (ZL _) ((h.later hb).later b1) (zgQ ss w cs hcs hz hl n hn);rw [hs] at q;refine q.mono ?_;rintro e w' ⟨h1,h2⟩;exact ⟨h1,b1.trans (h2.mono b1.size)⟩
theorem zlh (w:World):
  Calls Tryz.prog 18 #[.slice (some ⟨w.heap.size,0,none⟩) 2 2] (w.alloc (.cells #[.string ⟨#[97]⟩, .string ⟨#[99]⟩] 9)) fun e w'=> e= .returned (.string ⟨#[98]⟩)/\Below w.heap.size w w':=by
 have b1:Below w.heap.size w (w.alloc (.cells #[.string ⟨#[97]⟩, .string ⟨#[99]⟩] 9)):=ZQ w _;refine (zkW _ [bA,bC] _ (zgQ [bA,bC] w _ rfl (by decide) (by decide) 2 rfl) (by decide)).mono ?_;rintro e w' ⟨j,rfl,hj,hb⟩;refine ⟨?_,b1.trans (hb.mono b1.size)⟩
 have e:j=1:=hj.unique ⟨⟨by kernel_rfl,by kernel_rfl⟩,fun i hi=> by
  obtain rfl:i=0:=by omega
  intro h;have h2:=h.2;rw [show zF (List.map zb [bA,bC]) (strN 0)=true by kernel_rfl] at h2;cases h2⟩
 subst e
 rfl
theorem zkx (w:World):
  Calls Tryz.prog 14 #[] w fun e w'=> e= .returned (.bool true)/\Below w.heap.size w w':=by
 go_enter Tryz.func14,Tryz.ntmps14;go_wp2_with fail;refine (jA _).mono ?_;rintro e w1 ⟨c1,rfl,t1,b1⟩;go_wp2_with fail;refine (zk8 _ c1 t1).mono ?_;rintro e w2 ⟨rfl,b2⟩;go_wp2_with fail;refine (jA _).mono ?_;rintro e w3 ⟨c3,rfl,t3,b3⟩;go_wp2_with fail;refine (zl1 _ c3 t3).mono ?_;rintro e w4 ⟨rfl,b4⟩;go_wp2_with fail;refine (jA _).mono ?_;rintro e w5 ⟨c5,rfl,t5,b5⟩;go_wp2_with fail;refine (zmW _ c5 t5).mono ?_;rintro e w6 ⟨vl,rfl,sl,b6⟩;go_wp2_with fail;refine (jA _).mono ?_;rintro e w7 ⟨c7,rfl,t7,b7⟩;go_wp2_with fail;refine (zmG _ c7 t7).mono ?_;rintro e w8 ⟨vc,vp,rfl,sc,sp,b8⟩;have B06:Below w.heap.size w w6:=((((b1.trans (b2.mono b1.size)).trans (b3.mono (b1.trans (b2.mono b1.size)).size)).trans (b4.mono (by have:=b1.size;have:=b2.size;have:=b3.size;omega))).trans (b5.mono (by have:=b1.size;have:=b2.size;have:=b3.size;have:=b4.size;omega))).trans (b6.mono (by have:=b1.size;have:=b2.size;have:=b3.size;have:=b4.size;have:=b5.size;omega));have B68:Below w6.heap.size w6 w8:=(b7.trans (b8.mono b7.size));have B08:Below w.heap.size w w8:=B06.trans (B68.mono B06.size);clear b1 b2 b3 b4 b5 b6 b7 b8 t1 t3 t5 t7 B06;go_wp2_with fail;refine (zbp w6 w8 vl _ [bB,bQ,bZ] sl B68 _ rfl (by decide) (by decide) 3 rfl (by kernel_rfl)).mono ?_;rintro e w9 ⟨rfl,b9⟩;go_wp2_with fail;refine (zbp w8 w9 vc _ [bX,bY] sc b9 _ rfl (by decide) (by decide) 2 rfl (by kernel_rfl)).mono ?_;rintro e w10 ⟨rfl,b10⟩;go_wp2_with fail;refine (zbp w8 w10 vp _ [bP] sp (b9.trans (b10.mono b9.size)) _ rfl (by decide) (by decide) 1 rfl (by kernel_rfl)).mono ?_;rintro e w11 ⟨rfl,b11⟩;have B11:Below w.heap.size w w11:=((B08.trans (b9.mono B08.size)).trans (b10.mono (by have:=B08.size;have:=b9.size;omega))).trans (b11.mono (by have:=B08.size;have:=b9.size;have:=b10.size;omega));clear b9 b10 b11 B08 B68 sl sc sp;go_wp2_with fail;refine (jA _).mono ?_;rintro e w12 ⟨c12,rfl,t12,b12⟩;go_wp2_with fail;refine (zez _ _).mono ?_;rintro e w13 ⟨rfl,b13⟩;go_wp2_with fail;refine (zmO w13 c12 [.int .i64 2, .int .i64 0, .string bX, .slice none 0 0] (ze.below b13 b13.size _ _ t12) (zk5 _ _ _ (by decide))).mono ?_;rintro e w14 ⟨c14,rfl,t14,b14⟩;obtain ⟨p0,q0,r0,pa,pcap,p2,q2,r2,rfl,pb,poff,rfl,hpb,hpc⟩:=ze3 t14;have B14:Below w.heap.size w w14:=((B11.trans (b12.mono B11.size)).trans (b13.mono (by have:=B11.size;have:=b12.size;omega))).trans (b14.mono (by have:=B11.size;have:=b12.size;have:=b13.size;omega));clear b12 b13 b14 B11 t12 t14;obtain ⟨WP,hWP⟩:∃WP,WP=w14.alloc (.cells #[.int .i64 4, .string bE, .slice p0 q0 r0, .slice (some ⟨pb,poff,none⟩) 2 pcap, .slice p2 q2 r2] 33):=⟨_,rfl⟩;have BP:Below w14.heap.size w14 WP:=by rw [hWP];exact ZQ w14 _
 have kP:WP.heap[w14.heap.size]?=some (.cells #[.int .i64 4, .string bE, .slice p0 q0 r0, .slice (some ⟨pb,poff,none⟩) 2 pcap, .slice p2 q2 r2] 33):=by rw [hWP];exact ZN w14 _
 have zP:WP.heap.size=w14.heap.size + 1:=by rw [hWP];simp
 go_wp2_with fail;rw [<-hWP];clear hWP;refine (jA _).mono ?_;rintro e w15 ⟨c15,rfl,t15,b15⟩;go_wp2_with fail;refine (zmC w15 c15 [.int .i64 1, .int .i64 2, .string bE, .slice none 0 0] t15 (zmT _ _ _)).mono ?_;rintro e w16 ⟨vr,rfl,b16⟩;go_wp2_with fail;refine (jA _).mono ?_;rintro e w17 ⟨c17,rfl,t17,b17⟩;go_wp2_with fail;refine (znt w17 c17 t17).mono ?_;rintro e w18 ⟨c18,rfl,t18,b18⟩;obtain ⟨a0,a1,a2,ca,ccap,a3,a4,a5,rfl,cb,coff,rfl,hcb,hcc⟩:=ze3 t18;have BP18:Below WP.heap.size WP w18:=((b15.trans (b16.mono b15.size)).trans (b17.mono (by have:=b15.size;have:=b16.size;omega))).trans (b18.mono (by have:=b15.size;have:=b16.size;have:=b17.size;omega));clear b15 b16 b17 b18 t15 t17 t18;obtain ⟨WC,hWC⟩:∃WC,WC=w18.alloc (.cells #[.int .i64 4, .string bE, .slice a0 a1 a2, .slice (some ⟨cb,coff,none⟩) 2 ccap, .slice a3 a4 a5] 33):=⟨_,rfl⟩;have BC:Below w18.heap.size w18 WC:=by rw [hWC];exact ZQ w18 _
 have kC:WC.heap[w18.heap.size]?=some (.cells #[.int .i64 4, .string bE, .slice a0 a1 a2, .slice (some ⟨cb,coff,none⟩) 2 ccap, .slice a3 a4 a5] 33):=by rw [hWC];exact ZN w18 _
 have zC:WC.heap.size=w18.heap.size + 1:=by rw [hWC];simp
 go_wp2_with fail;rw [<-hWC];clear hWC;refine (jA _).mono ?_;rintro e w19 ⟨c19,rfl,t19,b19⟩;obtain ⟨d0,d1,d2,d3,d4,d5,kb,koff,kcap,kc,rfl,hkb,hkc,hkt⟩:=zkk t19;obtain ⟨f0,f1,f2,f3,f4,f5,gb,goff,gcap,rfl⟩:=zjo hkt;have l0:=hkc 0 (by simp);have l1:=hkc 1 (by simp);have l2:=hkc 2 (by simp);have l3:=hkc 3 (by simp);have l4:=hkc 4 (by simp);simp only [List.getElem_cons_zero,List.getElem_cons_succ,Nat.add_zero] at l0 l1 l2 l3 l4;have hfd:∀w:World,(Instr.field 33 (.agg #[.int .i64 4, .string bE, .slice d0 d1 d2, .slice d3 d4 d5, .slice (some ⟨kb,koff,none⟩) 1 kcap]) 4).run Tryz.prog w= .ok (.slice (some ⟨kb,koff,none⟩) 1 kcap) w:=fun _=> by kernel_rfl
 clear t19;go_wp2_with fail;refine (zlF w19.heap.size w19 w19 _ (Below.keptC (ZF _ w19)) (ZL _) hkt).mono ?_;rintro e w20 ⟨g0,g1,rfl,b20⟩;have B20:Below WC.heap.size WC w20:=b19.trans (b20.mono b19.size);have kC20:=(B20.block w18.heap.size (by omega)).trans kC;have BPC:Below WP.heap.size WP w20:=(BP18.trans (BC.mono BP18.size)).trans (B20.mono (by have:=BP18.size;have:=BC.size;omega));have kP20:=(BPC.block w14.heap.size (by omega)).trans kP;have B14_20:Below w14.heap.size w14 w20:=BP.trans (BPC.mono BP.size);have B18_20:Below w18.heap.size w18 w20:=BC.trans (B20.mono BC.size);have B00_20:Below w.heap.size w w20:=B14.trans (B14_20.mono B14.size);have m10:w20.cell? ⟨w14.heap.size,3,none⟩=some (.slice (some ⟨pb,poff,none⟩) 2 pcap):=by unfold World.cell?;simp only;rw [kP20];rfl
 have m11:w20.cell? ⟨w18.heap.size,3,none⟩=some (.slice (some ⟨cb,coff,none⟩) 2 ccap):=by unfold World.cell?;simp only;rw [kC20];rfl
 clear l0 l1 l2 l3 l4 hkc hkt hfd b19 b20 kP kC BP BC BP18 BPC;go_wp2_with fail;refine (zdb w14.heap.size w14 [jU,jX] zhh (by decide) (some ⟨pb,poff,none⟩) pcap (by decide) (.inr ⟨pb,poff,rfl,hpb,hpc⟩) w20 (Below.keptC B14_20) B14_20.size).mono ?_;rw [zkm];rintro e w21 ⟨vb,rfl,sb,b21⟩;go_wp2_with fail;refine (zbp w21 w21 vb _ [bC,bY,bP] sb (ZF _ _) _ rfl (by decide) (by decide) 3 rfl (by kernel_rfl)).mono ?_;rintro e w22 ⟨rfl,b22⟩;have b2022:=b21.trans (b22.mono b21.size)
 have m11':w22.cell? ⟨w18.heap.size,3,none⟩=some (.slice (some ⟨cb,coff,none⟩) 2 ccap):=by
  have z:=B20.size;have e:=(b2022.block w18.heap.size (by omega)).trans kC20;unfold World.cell?;simp only;rw [e];rfl
 go_wp2_with fail;refine (zdb w18.heap.size w18 [j1,jW] zmb (by decide) (some ⟨cb,coff,none⟩) ccap (by decide) (.inr ⟨cb,coff,rfl,hcb,hcc⟩) w22 (Below.keptC (B18_20.trans (b2022.mono B18_20.size))) (by have:=B18_20.size;have:=b2022.size;omega)).mono ?_;rw [zj2];rintro e w23 ⟨ve,rfl,se,b23⟩;go_wp2_with fail;refine (zbp w23 w23 ve _ [bA,bC,bD] se (ZF _ _) _ rfl (by decide) (by decide) 3 rfl (by kernel_rfl)).mono ?_;rintro e w24 ⟨rfl,b24⟩;go_wp2_with fail;refine (j4 _ _ (by decide)).mono ?_;rw [show qn ⟨#[97,98,99]⟩=true by kernel_rfl];rintro e w25 ⟨rfl,b25⟩;go_wp2_with fail;refine (j4 _ _ (by decide)).mono ?_;rw [show qn ⟨#[116,104,101,110]⟩=false by kernel_rfl];rintro e w26 ⟨rfl,b26⟩;go_wp2_with fail;refine (zlh w26).mono ?_;rintro e w27 ⟨rfl,b27⟩;go_wp2_with fail;go_ret;have z0:=B00_20.size;have z1:=b2022.size;have z2:=b23.size;have z3:=b24.size;have z4:=b25.size;have z5:=b26.size;exact ⟨rfl,(((((B00_20.trans (b2022.mono z0)).trans (b23.mono (by omega))).trans (b24.mono (by omega))).trans (b25.mono (by omega))).trans (b26.mono (by omega))).trans (b27.mono (by omega))⟩
theorem zcL (x:ByteArray):mkB (zb x)=x:=by cases x;simp [mkB,zb]
theorem zmX (n:Nat):strN n≠ []:=by
 intro h;have:=(jN n).1;rw [h] at this;cases this
theorem zjS {a b:ByteArray} (h:zb a=zb b):a=b:=by rw [<-zcL a,h,zcL]
def isT (t:ByteArray) (k:List UInt8):Bool:= !(zb t).isEmpty && k==zb t
def bndP (p:Part) (k:List UInt8):Bool:=(zR p).any (fun b=> k==zb b)
mutual
def fE:Exp->List UInt8->Bool
 | .mk _ _ t kids,k=> fEs kids k || isT t k
def fEs:List Exp->List UInt8->Bool
 | [],_=> false
 | e::es,k=> fE e k || fEs es k
end
mutual
def fC:zg->List UInt8->Bool
 | .mk f t j d ks,k=> (fCs d k || fTs ks k) && !bndP (.def_ (.mk f t j d ks)) k
def fCs:List zg->List UInt8->Bool
 | [],_=> false
 | c::cs,k=> fC c k || fCs cs k
def fT:Term->List UInt8->Bool
 | .mk o t a d ks,k=> ((fEs a k || fCs d k || fTs ks k) && !bndP (.proc (.mk o t a d ks)) k) || isT t k
def fTs:List Term->List UInt8->Bool
 | [],_=> false
 | t::ts,k=> fT t k || fTs ts k
end
def fP:Part->List UInt8->Bool
 | .proc t=> fT t
 | .exp e=> fE e
 | .def_ c=> fC c
theorem fEs_any:∀es k,fEs es k=es.any (fun e=> fE e k)
 | [],_=> rfl
 | e::es,k=> by rw [fEs,fEs_any es k];rfl
theorem fCs_any:∀es k,fCs es k=es.any (fun e=> fC e k)
 | [],_=> rfl
 | e::es,k=> by rw [fCs,fCs_any es k];rfl
theorem fTs_any:∀es k,fTs es k=es.any (fun e=> fT e k)
 | [],_=> rfl
 | e::es,k=> by rw [fTs,fTs_any es k];rfl
theorem fP_parts (p:Part) (k:List UInt8):fP p k=(((p.parts.any (fun q=> fP q k)) && !bndP p k) || isT (yA p) k):=by
 cases p with
 | proc t=>
  obtain ⟨o,t,a,d,ks⟩:=t;simp only [fP,fT,Part.parts,List.any_append,List.any_map,fEs_any,fCs_any,fTs_any,yA]
  rfl
 | exp e=>
  obtain ⟨o,n,t,ks⟩:=e;simp only [fP,fE,Part.parts,List.any_map,fEs_any,yA,bndP,zR,List.any_nil,Bool.not_false,Bool.and_true]
  rfl
 | def_ c=>
  obtain ⟨f,t,j,d,ks⟩:=c;have e:isT (yA (.def_ (.mk f t j d ks))) k=false:=rfl;rw [e];simp only [fP,fC,Part.parts,List.any_append,List.any_map,fCs_any,fTs_any,Bool.or_false]
  rfl
theorem freeN_fP:∀(n:Nat) (p:Part),p.size<=n->∀k,qE n p k=fP p k:=by
 intro n
 induction n with
 | zero=> intro p hp;have:=yD p;omega
 | succ n ih=>
  intro p hp k;rw [fP_parts,qE]
  have e:p.parts.any (fun q=> qE n q k)=p.parts.any (fun q=> fP q k):=by
   rw [Bool.eq_iff_iff,List.any_eq_true,List.any_eq_true];constructor
   ·rintro ⟨q,hq,h⟩;exact ⟨q,hq,by rw [<-ih q (by have:=qi hq;omega)];exact h⟩
   ·rintro ⟨q,hq,h⟩;exact ⟨q,hq,by rw [ih q (by have:=qi hq;omega)];exact h⟩
  rw [e];rfl
mutual
def okE:Exp->Prop
 | .mk op _ t kids=> (op=2->kids= []/\t.size≠0)/\(op≠2->t.size=0)/\okEs kids
def okEs:List Exp->Prop
 | []=> True
 | e::es=> okE e/\okEs es
end
def okB (W:List UInt8->Prop) (p:Part):Prop:=∀b∈zR p,b.size≠0/\W (zb b)
mutual
def okC (W:List UInt8->Prop):zg->Prop
 | .mk f t j d ks=> (f=2->j= [])/\(f≠2->d= [])/\okB W (.def_ (.mk f t j d ks))/\okCs W d/\okTs W ks
def okCs (W:List UInt8->Prop):List zg->Prop
 | []=> True
 | c::cs=> okC W c/\okCs W cs
def okT (W:List UInt8->Prop):Term->Prop
 | .mk o t a d ks=> okEs a/\okB W (.proc (.mk o t a d ks))/\okCs W d/\okTs W ks
def okTs (W:List UInt8->Prop):List Term->Prop
 | []=> True
 | t::ts=> okT W t/\okTs W ts
end
def zaF (x:ByteArray):List Frame->Option ByteArray
 | []=> none
 | f::fs=> match f (zb x) with
  | some n=> some n
  | none=> zaF x fs
theorem becomesF_look (b:Base) (x:ByteArray):∀fs,yC b x fs=match zaF x fs with
  | some n=> yq n
  | none=> b.becomes x
 | []=> rfl
 | f::fs=> by
  rw [yC,zaF];cases f (zb x) with
  | some n=> rfl
  | none=> exact becomesF_look b x fs
theorem lookF_binds (x:ByteArray):∀fs:List Frame,(fs.any (fun f=> (f (zb x)).isSome))=(zaF x fs).isSome
 | []=> rfl
 | f::fs=> by
  rw [List.any_cons,zaF];cases f (zb x) with
  | some n=> rfl
  | none=> simpa using lookF_binds x fs
theorem fE_nameE (s:ByteArray) (k:List UInt8):fE (yq s) k=isT s k:=by
 unfold yq;rw [fE,fEs,Bool.false_or]
theorem isT_iff {t:ByteArray} {k:List UInt8} (h:t.size≠0):isT t k=true↔k=zb t:=by
 have e:(zb t).isEmpty=false:=by
  cases t with | mk d=> simp [ByteArray.size] at h;simpa [zb] using h
 simp [isT,e]
theorem isT_zero {t:ByteArray} {k:List UInt8} (h:t.size=0):isT t k=false:=by
 rw [xd h];rfl
structure FrOk (f:Frame) (U U1:Used) (B ren:List ByteArray):Prop where
 is:∀x,(f x).isSome=true↔x∈B.map zb
 what:∀n c,f (zb n)=some c->(c=n/\n ∉ ren)∨(U (zb c)=false/\U1 (zb c)=true/\c.size≠0)
 more:∀k,U k=true->U1 k=true
theorem zh5 {U:Used} {m:Nat} (h:Cov U m) (hm:m<=4900):U (choose U)=false:=by
 obtain ⟨j,hj,hg⟩:=h.free hm;have h1:=(zaA U 5000 0 j (by omega) (by omega) hg).1;unfold jZ at h1;unfold choose;rw [Bool.and_eq_true] at h1;simpa using h1.2
theorem zfU:∀(B:List ByteArray) (f:Frame) (x:List UInt8),(B.foldl zak f) x=if x∈B.map zb then some (mkB x) else f x
 | [],f,x=> by simp
 | b::B,f,x=> by
  rw [List.foldl_cons,zfU B];by_cases h:x∈B.map zb
  ·rw [if_pos h,if_pos (by rw [List.map_cons];exact List.mem_cons_of_mem _ h)]
  ·rw [if_neg h]
   by_cases h2:x=zb b
   ·rw [if_pos (by rw [List.map_cons];exact h2▸List.mem_cons_self),zak,upd,if_pos (by simpa using h2),h2,zcL]
   ·rw [if_neg (by rw [List.map_cons,List.mem_cons];exact fun h3=> h3.elim h2 h),zak,upd,if_neg (by simpa using h2)]
theorem anew_fold:∀(ren:List ByteArray) (f:Frame) (U:Used) (m:Nat),Cov U m->m + ren.length<=4900->
  (∀x,x ∉ ren.map zb->(ren.foldl xC (f,U)).1 x=f x)/\
  (∀n∈ren,∃c,(ren.foldl xC (f,U)).1 (zb n)=some c/\U (zb c)=false/\(ren.foldl xC (f,U)).2 (zb c)=true/\c.size≠0)/\
  (∀k,U k=true->(ren.foldl xC (f,U)).2 k=true)/\Cov (ren.foldl xC (f,U)).2 (m + ren.length)
 | [],f,U,m,hC,_=> ⟨fun _ _=> rfl,fun n hn=> by simp at hn,fun _ h=> h,hC⟩
 | r::ren,f,U,m,hC,hm=> by
  rw [List.length_cons] at hm;have hch:=zh5 hC (by omega);obtain ⟨h1,h2,h3,h4⟩:=anew_fold ren (upd f r (mkB (choose U))) (xl U (choose U)) (m + 1) (hC.plus _) (by omega);have e:(r::ren).foldl xC (f,U)=ren.foldl xC (upd f r (mkB (choose U)),xl U (choose U)):=rfl;rw [e];refine ⟨fun x hx=> ?_,fun n hn=> ?_,fun k hk=> h3 k ?_,?_⟩
  ·rw [List.map_cons,List.mem_cons,not_or] at hx
   rw [h1 x hx.2,upd,if_neg (by simpa using hx.1)]
  ·by_cases hr:zb n∈ren.map zb
   ·obtain ⟨n',hn',he⟩:=List.mem_map.1 hr
    obtain rfl:=zjS he;obtain ⟨c,a1,a2,a3,a4⟩:=h2 n' hn';refine ⟨c,a1,?_,a3,a4⟩;unfold xl at a2;exact (Bool.or_eq_false_iff.1 a2).1
   ·have hnr:n=r:=by
     rcases List.mem_cons.1 hn with h | h
     ·exact h
     ·exact absurd (List.mem_map.2 ⟨n,h,rfl⟩) hr
    subst hnr;refine ⟨mkB (choose U),by rw [h1 _ hr,upd,if_pos (by simp)],by rw [yv];exact hch,h3 _ (by rw [yv];simp [xl]),?_⟩;rw [zgO];intro h;exact zmX _ (List.length_eq_zero_iff.1 h)
  ·simp [xl,hk]
  ·rw [List.length_cons,show m + (ren.length + 1)=m + 1 + ren.length from by omega];exact h4
theorem frame_ok {B ren:List ByteArray} {U:Used} {m:Nat} (hsub:∀b∈ren,b∈B) (hC:Cov U m) (hm:m + ren.length<=4900):
  FrOk (ren.foldl xC (B.foldl zak (fun _=> none),U)).1 U (ren.foldl xC (B.foldl zak (fun _=> none),U)).2 B ren:=by
 obtain ⟨h1,h2,h3,h4⟩:=anew_fold ren (B.foldl zak (fun _=> none)) U m hC hm;have hself:=zfU B (fun _=> none);refine ⟨fun x=> ?_,fun n c hc=> ?_,h3⟩
 ·by_cases h:x∈ren.map zb
  ·obtain ⟨n,hn,rfl⟩:=List.mem_map.1 h
   obtain ⟨c,a1,_⟩:=h2 n hn;rw [a1];exact ⟨fun _=> List.mem_map.2 ⟨n,hsub n hn,rfl⟩,fun _=> rfl⟩
  ·rw [h1 x h,hself x]
   by_cases h2:x∈B.map zb
   ·rw [if_pos h2];simp [h2]
   ·rw [if_neg h2];simp [h2]
 ·by_cases h:zb n∈ren.map zb
  ·obtain ⟨n',hn',he⟩:=List.mem_map.1 h
   obtain rfl:=zjS he;obtain ⟨c',a1,a2,a3,a4⟩:=h2 n' hn';rw [a1] at hc;cases hc;exact .inr ⟨a2,a3,a4⟩
  ·rw [h1 _ h,hself] at hc
   by_cases h2:zb n∈B.map zb
   ·rw [if_pos h2] at hc
    cases hc;exact .inl ⟨zcL n,fun h3=> h (List.mem_map.2 ⟨n,h3,rfl⟩)⟩
   ·rw [if_neg h2] at hc;cases hc
def Im (v:Env) (A:List UInt8->Bool) (k:List UInt8):Prop:=∃n:ByteArray,A (zb n)=true/\fE (v.becomes n) k=true
structure Fit (W:List UInt8->Prop) (v:Env) (U:Used) (A:List UInt8->Bool):Prop where
 used:∀n k,A (zb n)=true->fE (v.becomes n) k=true->U k=true
 kept:v.base≠ .anew->∀b,W b->U b=true/\∀n c,zaF n v.frames=some c->c=n∨zb c≠b
def BaseOk (b:Base):Prop:=b= .anew∨∃x e,b= .putting x e/\okE e/\(Part.exp e).size<=60
theorem Fit.less {W:List UInt8->Prop} {v:Env} {U U':Used} {A A':List UInt8->Bool} (h:Fit W v U A) (hU:∀k,U k=true->U' k=true) (hA:∀k,A' k=true->A k=true):Fit W v U' A':=
 ⟨fun n k h1 h2=> hU k (h.used n k (hA _ h1) h2),fun hb b hW=> ⟨hU b (h.kept hb b hW).1,(h.kept hb b hW).2⟩⟩
theorem becomes_shape {v:Env} (hb:BaseOk v.base) (n:ByteArray):(∃c,v.becomes n=yq c)∨okE (v.becomes n):=by
 unfold Env.becomes;rw [becomesF_look];cases zaF n v.frames with
 | some c=> exact .inl ⟨c,rfl⟩
 | none=>
  rcases hb with hb | ⟨x,e,hb,he,_⟩
  ·rw [hb];exact .inl ⟨n,rfl⟩
  ·rw [hb]
   simp only [Base.becomes]
   split
   ·exact .inr he
   ·exact .inl ⟨n,rfl⟩
mutual
theorem copyE_free (v:Env):∀e,okE e->∀k,fE (zeS v e) k=true↔Im v (fE e) k
 | .mk op n t kids,he,k=> by
  unfold okE at he;obtain ⟨h1,h2,h3⟩:=he;rw [zeS];by_cases ho:op=2
  ·obtain ⟨rfl,ht⟩:=h1 ho
   rw [if_pos ho];unfold Im;constructor
   ·intro h
    exact ⟨t,by rw [fE,fEs,Bool.false_or];exact (isT_iff ht).2 rfl,h⟩
   ·rintro ⟨m,h4,h5⟩
    rw [fE,fEs,Bool.false_or] at h4;rw [zjS ((isT_iff ht).1 h4)] at h5;exact h5
  ·rw [if_neg ho,fE,isT_zero (h2 ho),Bool.or_false,copyEs_free v kids h3 k]
   unfold Im;refine exists_congr fun m=> ?_;rw [fE,isT_zero (h2 ho),Bool.or_false]
theorem copyEs_free (v:Env):∀es,okEs es->∀k,fEs (jM v es) k=true↔Im v (fEs es) k
 | [],_,k=> by
  rw [jM];constructor
  ·intro h;simp [fEs] at h
  ·rintro ⟨m,h,_⟩;simp [fEs] at h
 | e::es,he,k=> by
  unfold okEs at he;rw [jM,fEs,Bool.or_eq_true,copyE_free v e he.1 k,copyEs_free v es he.2 k];unfold Im;constructor
  ·rintro (⟨m,h1,h2⟩ | ⟨m,h1,h2⟩)
   ·exact ⟨m,by rw [fEs,h1,Bool.true_or],h2⟩
   ·exact ⟨m,by rw [fEs,h1,Bool.or_true],h2⟩
  ·rintro ⟨m,h1,h2⟩
   rw [fEs,Bool.or_eq_true] at h1;exact h1.elim (fun h=> .inl ⟨m,h,h2⟩) (fun h=> .inr ⟨m,h,h2⟩)
end
theorem text_free {v:Env} (hb:BaseOk v.base) {t t':ByteArray} (h:yS v t=some t') (k:List UInt8):isT t' k=true↔Im v (isT t) k:=by
 unfold yS at h;by_cases hz:t.size=0
 ·rw [if_pos hz] at h
  cases h;constructor
  ·intro h;rw [isT_zero hz] at h;cases h
  ·rintro ⟨m,h1,_⟩;rw [isT_zero hz] at h1;cases h1
 ·rw [if_neg hz] at h
  have hk:fE (v.becomes t) k=isT t' k:=by
   rcases becomes_shape hb t with ⟨c,hc⟩ | hc
   ·rw [hc] at h ⊢
    rw [fE_nameE];unfold yq at h;simp at h;rw [h]
   ·cases hv:v.becomes t with
    | mk op n x kids=>
     rw [hv] at h hc;simp only at h;by_cases ho:op=2
     ·rw [if_pos ho] at h
      cases h;unfold okE at hc;rw [(hc.1 ho).1,fE,fEs,Bool.false_or]
     ·rw [if_neg ho] at h;cases h
  constructor
  ·intro h1;exact ⟨t,(isT_iff hz).2 rfl,hk.trans h1⟩
  ·rintro ⟨m,h1,h2⟩
   rw [zjS ((isT_iff hz).1 h1)] at h2;exact hk▸h2
theorem bndP_iff (p:Part) (k:List UInt8):bndP p k=true↔∃b∈zR p,k=zb b:=by
 unfold bndP;simp [List.any_eq_true]
structure InOk (W:List UInt8->Prop) (v:Env) (U:Used) (p:Part) (i:Env×Used) (m:Nat):Prop where
 base:i.1.base=v.base
 more:∀k,U k=true->i.2 k=true
 cov:Cov i.2 (m + (zR p).length)
 old:∀n,bndP p (zb n)=false->zaF n i.1.frames=zaF n v.frames
 new:∀n,bndP p (zb n)=true->∃c,zaF n i.1.frames=some c/\c.size≠0/\i.2 (zb c)=true
 fits:∀A:List UInt8->Bool,(∀k,A k=true->bndP p k=true∨fP p k=true)->Fit W i.1 i.2 A
 apart:∀n b c k,fP p (zb n)=true->bndP p (zb n)=false->bndP p (zb b)=true->zaF b i.1.frames=some c->fE (v.becomes n) k=true->k≠zb c
theorem becomes_look (v:Env) (n:ByteArray):v.becomes n=match zaF n v.frames with
  | some c=> yq c
  | none=> v.base.becomes n:=becomesF_look _ _ _
theorem InOk.becomes_old {W:List UInt8->Prop} {v:Env} {U:Used} {p:Part} {i:Env×Used} {m:Nat} (h:InOk W v U p i m) (n:ByteArray) (hn:bndP p (zb n)=false):i.1.becomes n=v.becomes n:=by
 rw [becomes_look,becomes_look,h.old n hn,h.base]
theorem inside_ok {W:List UInt8->Prop} {v:Env} {U:Used} {p:Part} {m:Nat} (hbase:BaseOk v.base) (hB:okB W p) (hF:Fit W v U (fP p)) (h60:p.size<=60) (hC:Cov U m) (hm:m + (zR p).length<=4900):InOk W v U p (inside v U p) m:=by
 unfold inside;by_cases he:zR p= []
 ·have hb:∀k,bndP p k=false:=fun k=> by unfold bndP;rw [he];rfl
  rw [if_pos he];refine ⟨rfl,fun _ h=> h,by rw [he];exact hC,fun n _=> rfl,fun n hn=> (by rw [hb] at hn;cases hn),fun A hA=> hF.less (fun _ h=> h) (fun k hk=> ?_),fun n b c k _ _ hn=> (by rw [hb] at hn;cases hn)⟩;rcases hA k hk with h | h
  ·rw [hb] at h;cases h
  ·exact h
 ·rw [if_neg he]
  obtain ⟨ren,hren⟩:∃ren,ren=v.base.renames v p:=⟨_,rfl⟩
  have hsub:∀b∈ren,b∈zR p:=by
   intro b hb;rw [hren] at hb;rcases hbase with h | ⟨x,e,h,_,_⟩
   ·rw [h] at hb;exact hb
   ·rw [h] at hb
    simp only [Base.renames] at hb
    split at hb
    ·simp at hb
    ·exact (List.mem_filter.1 hb).1
  have hlen:ren.length<=(zR p).length:=by
   rw [hren];rcases hbase with h | ⟨x,e,h,_,_⟩
   ·rw [h];exact ZL _
   ·rw [h]
    simp only [Base.renames]
    split
    ·simp
    ·exact List.length_filter_le _ _
  rw [<-hren];obtain ⟨s,hs⟩:∃s,s=ren.foldl xC ((zR p).foldl zak (fun _=> none),U):=⟨_,rfl⟩;have hfr:=frame_ok (m:=m) hsub hC (by omega);have hcv:=(anew_fold ren ((zR p).foldl zak (fun _=> none)) U m hC (by omega)).2.2.2;rw [<-hs] at hfr hcv;simp only;rw [<-hs]
  have hlook:∀n,zaF n (s.1::v.frames)=match s.1 (zb n) with
    | some c=> some c
    | none=> zaF n v.frames:=fun n=> rfl
  have hnone:∀n,bndP p (zb n)=false->s.1 (zb n)=none:=by
   intro n hn;cases hc:s.1 (zb n) with
   | none=> rfl
   | some c=>
    obtain ⟨b,hb,he⟩:=List.mem_map.1 ((hfr.is (zb n)).1 (by rw [hc];rfl));have:bndP p (zb n)=true:=(bndP_iff p _).2 ⟨b,hb,he.symm⟩;rw [hn] at this;cases this
  have hsome:∀n,bndP p (zb n)=true->∃c,s.1 (zb n)=some c:=by
   intro n hn;obtain ⟨b,hb,he⟩:=(bndP_iff p _).1 hn;exact Option.isSome_iff_exists.1 ((hfr.is (zb n)).2 (List.mem_map.2 ⟨b,hb,he.symm⟩))
  have hanew:v.base= .anew->ren=zR p:=fun h=> by rw [hren,h];rfl
  have hmemB:∀n,bndP p (zb n)=true->n∈zR p:=fun n hn=> by
   obtain ⟨b,hb,he⟩:=(bndP_iff p _).1 hn;rw [zjS he];exact hb
  have hbB:∀n c,s.1 (zb n)=some c->n∈zR p:=fun n c hc=> by
   obtain ⟨b,hb,he⟩:=List.mem_map.1 ((hfr.is (zb n)).1 (by rw [hc];rfl));rw [<-zjS he];exact hb
  have hkeep:∀n,n∈zR p->n ∉ ren->W (zb n)/\v.base≠ .anew:=fun n hn hr=> ⟨(hB n hn).2,fun h=> hr (by rw [hanew h];exact hn)⟩;refine ⟨rfl,hfr.more,hcv.mono (by omega),fun n hn=> by rw [hlook,hnone n hn],fun n hn=> ?_,fun A hA=> ⟨fun n k h1 h2=> ?_,fun hb b hWb=> ⟨hfr.more b (hF.kept hb b hWb).1,fun n c hl=> ?_⟩⟩,fun n b c k h1 h2 h3 hl h4=> ?_⟩
  ·obtain ⟨c,hc⟩:=hsome n hn
   refine ⟨c,by rw [hlook,hc],?_⟩;rcases hfr.what n c hc with ⟨rfl,hr⟩ | ⟨_,h2,h3⟩
   ·have hb:=hmemB c hn
    obtain ⟨hw1,hw2⟩:=hkeep c hb hr;exact ⟨(hB c hb).1,hfr.more _ (hF.kept hw2 _ hw1).1⟩
   ·exact ⟨h3,h2⟩
  ·cases hc:s.1 (zb n) with
   | some c=>
    rw [becomes_look,show zaF n (Env.mk v.base (s.1::v.frames)).frames=some c from by rw [hlook,hc],fE_nameE] at h2;rcases hfr.what n c hc with ⟨rfl,hr⟩ | ⟨_,h3,h4⟩
    ·have hb:=hbB c c hc
     obtain ⟨hw1,hw2⟩:=hkeep c hb hr;rw [(isT_iff (hB c hb).1).1 h2];exact hfr.more _ (hF.kept hw2 _ hw1).1
    ·rw [(isT_iff h4).1 h2];exact h3
   | none=>
    have e:(Env.mk v.base (s.1::v.frames)).becomes n=v.becomes n:=by
     rw [becomes_look,becomes_look,show zaF n (Env.mk v.base (s.1::v.frames)).frames=zaF n v.frames from by rw [hlook,hc]]
    rw [e] at h2;rcases hA _ h1 with h | h
    ·obtain ⟨c,hc'⟩:=hsome n h
     rw [hc'] at hc;cases hc
    ·exact hfr.more k (hF.used n k h h2)
  ·rw [hlook] at hl
   cases hc:s.1 (zb n) with
   | some c'=>
    rw [hc] at hl;cases hl;rcases hfr.what n c hc with ⟨rfl,_⟩ | ⟨h3,_,_⟩
    ·exact .inl rfl
    ·refine .inr fun e=> ?_
     rw [e,(hF.kept hb b hWb).1] at h3;cases h3
   | none=>
    rw [hc] at hl;exact (hF.kept hb b hWb).2 n c hl
  ·have hmb:=hmemB b h3
   obtain ⟨c',hc⟩:=hsome b h3;have hl':zaF b (s.1::v.frames)=some c:=hl;rw [hlook,hc] at hl';cases hl';rcases hfr.what b c hc with ⟨rfl,hr⟩ | ⟨h5,_,_⟩
   ·obtain ⟨hw1,hw2⟩:=hkeep c hmb hr
    rw [becomes_look] at h4;have hnc:zb n≠zb c:=fun e=> by rw [e,h3] at h2;cases h2
    cases hln:zaF n v.frames with
    | some d=>
     rw [hln] at h4;simp only at h4;rw [fE_nameE] at h4;intro e;rw [e] at h4
     have hd:zb c=zb d:=by
      unfold isT at h4;rw [Bool.and_eq_true] at h4;simpa using h4.2
     rcases (hF.kept hw2 _ hw1).2 n d hln with rfl | hd2
     ·exact hnc hd.symm
     ·exact hd2 hd.symm
    | none=>
     rw [hln] at h4;simp only at h4;rcases hbase with h | ⟨x,e,h,heo,he60⟩
     ·exact absurd h hw2
     ·rw [h] at h4
      simp only [Base.becomes] at h4;by_cases hx:n=x
      ·rw [if_pos hx] at h4
       rw [h] at hren;simp only [Base.renames] at hren
       have hvb:v.binds (zb x)=false:=by
        unfold Env.binds;rw [lookF_binds,<-hx,hln];rfl
       have hfx:qE 60 p (zb x)=true:=by rw [freeN_fP 60 p h60,<-hx];exact h1
       rw [hvb,hfx] at hren;simp only [Bool.not_true,Bool.or_self,Bool.false_eq_true,if_false] at hren;intro ek;rw [ek] at h4;refine hr (hren▸List.mem_filter.2 ⟨hmb,?_⟩);rw [freeN_fP 60 _ he60];exact h4
      ·rw [if_neg hx,fE_nameE] at h4
       intro ek;rw [ek] at h4;unfold isT at h4;rw [Bool.and_eq_true] at h4;exact hnc (by simpa using (beq_iff_eq.1 h4.2).symm)
   ·intro e
    rw [<-e,hF.used n k h1 h4] at h5;cases h5
end
end Go.Proofs.YtjmlaeofjjhfmaaGreat
