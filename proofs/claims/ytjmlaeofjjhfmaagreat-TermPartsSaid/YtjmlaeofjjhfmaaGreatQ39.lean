/- Lemmas. -/
import Derived.Test.YtjmlaeofjjhfmaaGreatQ37
import Derived.Test.YtjmlaeofjjhfmaaGreatQ38
import Derived.Deep.CutRange
set_option linter.unusedVariables false
set_option linter.unusedSimpArgs false
set_option maxRecDepth 10000
set_option maxHeartbeats 16000000
namespace Go.Proofs.YtjmlaeofjjhfmaaGreat
open Go.RowKit Go.Shelf Go.Maps
abbrev o130:Obj:= .cells #[.int .i64 0, .string ⟨#[]⟩, .slice none 0 0, .slice none 0 0, .slice none 0 0] 130
abbrev o144:Obj:= .cells #[.string ⟨#[]⟩, .slice none 0 0] 144
theorem zN.msgsDone {ob:Nat} {box:Value->Obj} {W2:World} {l:List Msg} {a:Option Addr} {cap:Nat} {wr:World} (h:zN yK 144 2 ob box W2 (l.take l.length) l.length a cap wr) (hob:ob < W2.heap.size):SlAt wr.heap.size (.slice a l.length cap) l.length (fun b off=> zX wr.heap.size (blank (ob + 1) wr) b off l):=by
 rw [List.take_length] at h;obtain ⟨_,_,_,vals,ho,hc⟩:=h;exact zib (zgM ho hc) (zE.refl _ _) hob
theorem jT {W:World} {n:Nat} {v0 v1 v2 v3 v4:Value} (h:W.heap[n]?=some (.cells #[v0,v1,v2,v3,v4] 130)):W.cell? ⟨n,0,none⟩=some v0/\W.cell? ⟨n,1,none⟩=some v1/\W.cell? ⟨n,2,none⟩=some v2/\W.cell? ⟨n,3,none⟩=some v3/\W.cell? ⟨n,4,none⟩=some v4/\
  W.frozen? ⟨n,0,none⟩=false/\W.frozen? ⟨n,1,none⟩=false/\W.frozen? ⟨n,2,none⟩=false/\W.frozen? ⟨n,3,none⟩=false/\W.frozen? ⟨n,4,none⟩=false:=
 ⟨by simp [World.cell?,h],by simp [World.cell?,h],by simp [World.cell?,h],by simp [World.cell?,h],by simp [World.cell?,h],by simp [World.frozen?,h],by simp [World.frozen?,h],by simp [World.frozen?,h],by simp [World.frozen?,h],by simp [World.frozen?,h]⟩
theorem zdM {w:World} {b:Nat} {a0 a1 a2 a3 a4:Value} (h:w.heap[b]?=some (.cells #[a0,a1,a2,a3,a4] 130)) (v0 v1 v2 v3 v4:Value):(((((w.setCell ⟨b,0,none⟩ v0).setCell ⟨b,1,none⟩ v1).setCell ⟨b,2,none⟩ v2).setCell ⟨b,3,none⟩ v3).setCell ⟨b,4,none⟩ v4).heap[b]?=some (.cells #[v0,v1,v2,v3,v4] 130):=by
 have:=qD (qD (qD (qD (qD h 0 v0) 1 v1) 2 v2) 3 v3) 4 v4;simpa using this
theorem zar {W:World} {n:Nat} {v0 v1:Value} (h:W.heap[n]?=some (.cells #[v0,v1] 144)):W.cell? ⟨n,0,none⟩=some v0/\W.cell? ⟨n,1,none⟩=some v1/\W.frozen? ⟨n,0,none⟩=false/\W.frozen? ⟨n,1,none⟩=false:=
 ⟨by simp [World.cell?,h],by simp [World.cell?,h],by simp [World.frozen?,h],by simp [World.frozen?,h]⟩
theorem xu {o:Oper} {a:Act} {w:World} {K:Act->World->Prop} {Q:Exit->Act->World->Prop} (s x:Operand) (t t':TypeId)
  (ho:o.op= .call { callee:= .builtin .append,args:=#[s,x],argTypes:=#[t,t'] }) {v1 v2 v':Value} {w':World} (h1:a.eval s=v1) (h2:a.eval x=v2)
  (hr:(Builtin.append_ #[t,t'] o.type #[v1,v2]).run Tryz.prog w= .ok v' w') (hK:K (a.put o.dst v') w'):Oper.wp Tryz.prog o a w K Q:=by
 unfold Oper.wp execOp;simp only [ho,resolve,invoke,builtin,Sem.run_bind,Sem.run_pure,Result.andThen_ok,List.map_toArray,List.map_cons,List.map_nil,h1,h2,hr];exact hK
theorem yE.grown {W W':World} {v:Value} {l:List ByteArray} {ob:Nat} {cs:Array Value} (h:yE W v l) (hg:W.grownBy W' (some ob)) (hb:W.heap[ob]?=some (.cells cs 130)):yE W' v l:=
 ⟨zt h.own hg (fun b hb' e=> zae h.own hb (by decide) (by rw [hb',<-ZJ e])),h.sz⟩
set_option maxRecDepth 100000 in
theorem zkq (s:Nat) (hT:zgv s) (hC:zdi s):zdi (s + 1):=by
 intro t hsz hf c hid hcl B u w wb c1 c2 hu hB hw hc ht;obtain ⟨form,text,joins,defs,kids⟩:=t;obtain ⟨htz,va,vd,vk,rfl,hsa,hsd,hsk⟩:=ht;obtain ⟨a0,p0,rfl,hla,hj0⟩:=hsa;obtain ⟨a1,p1,rfl,hld,hd0⟩:=hsd;obtain ⟨a2,p2,rfl,hlk,hk0⟩:=hsk;have hch:=hc;obtain ⟨⟨v1,v2,rfl,hs1,hs2⟩,-⟩:=hc;obtain ⟨q0,r0,rfl,-⟩:=hs1;obtain ⟨q1,r1,rfl,-⟩:=hs2;obtain ⟨x1,hx1⟩:∃x,x=(c.map (·.1)).length:=⟨_,rfl⟩;obtain ⟨x2,hx2⟩:∃x,x=c.length:=⟨_,rfl⟩;rw [<-hx1,<-hx2] at hch;rw [<-hx1,<-hx2];clear hx1 hx2;obtain ⟨hl1,hl2,hl3,hl9⟩:=zcT hf
 have hfd:∀d∈defs,Fit0 (.def_ d)/\(Part.def_ d).size<=s:=fun d hd=> by
  have hp:Part.def_ d∈(Part.def_ (.mk form text joins defs kids)).parts:=by
   rw [Part.parts];simp only [List.mem_append,List.mem_map];exact .inl ⟨d,hd,rfl⟩
  exact ⟨jr hf hp,by have:=qi hp;omega⟩
 have hfk:∀d∈kids,Fit0 (.proc d)/\(Part.proc d).size<=s:=fun d hd=> by
  have hp:Part.proc d∈(Part.def_ (.mk form text joins defs kids)).parts:=by
   rw [Part.parts];simp only [List.mem_append,List.mem_map];exact .inr ⟨d,hd,rfl⟩
  exact ⟨jr hf hp,by have:=qi hp;omega⟩
 have hwl:wb < w.heap.size:=(ZG hw).1;obtain ⟨W1,hW1⟩:∃W1,W1=((w.alloc (.cells #[.slice q0 x1 r0, .slice q1 x2 r1] 111)).alloc (.cells #[.int .i64 form, .string text, .slice a0 joins.length p0, .slice a1 defs.length p1, .slice a2 kids.length p2] 130)).alloc o130:=⟨_,rfl⟩;have z1:W1.heap.size=w.heap.size + 3:=by rw [hW1];simp
 have b1:Below w.heap.size w W1:=by rw [hW1];exact ((ZQ w _).alloc (by simp) _).alloc (by simp;omega) _
 have k0:W1.heap[w.heap.size]?=some (.cells #[.slice q0 x1 r0, .slice q1 x2 r1] 111):=by
  rw [hW1,ZO _ _ _ (by simp;omega),ZO _ _ _ (by simp)];exact ZN w _
 have k1:W1.heap[w.heap.size + 1]?=some (.cells #[.int .i64 form, .string text, .slice a0 joins.length p0, .slice a1 defs.length p1, .slice a2 kids.length p2] 130):=by
  rw [hW1,ZO _ _ _ (by simp)];have:=ZN (w.alloc (.cells #[.slice q0 x1 r0, .slice q1 x2 r1] 111)) (.cells #[.int .i64 form, .string text, .slice a0 joins.length p0, .slice a1 defs.length p1, .slice a2 kids.length p2] 130);rwa [World.size_alloc] at this
 have k2:W1.heap[w.heap.size + 2]?=some o130:=by
  rw [hW1];have:=ZN ((w.alloc (.cells #[.slice q0 x1 r0, .slice q1 x2 r1] 111)).alloc (.cells #[.int .i64 form, .string text, .slice a0 joins.length p0, .slice a1 defs.length p1, .slice a2 kids.length p2] 130)) o130;rwa [World.size_alloc,World.size_alloc] at this
 have hTF1:∀W ob,Below W1.heap.size W1 W->w.heap.size + 3<=ob->ob < W.heap.size->TF w wb ob (.cells #[.int .i64 form, .string text, .slice a0 joins.length p0, .slice a1 defs.length p1, .slice a2 kids.length p2] 130) o130 B u q0 x1 r0 q1 x2 r1 W:=fun W ob hW h3 h4=> by
  have hbw:=b1.trans (hW.mono (by omega));exact ⟨(hW.block _ (by omega)).trans k0,(hW.block _ (by omega)).trans k1,(hW.block _ (by omega)).trans k2,(hbw.block wb hwl).trans hw,hu.trans ((Below.keptC hbw).mono hB),by have:=hbw.size;omega,hbw,hwl,h3,h4,fun _ _ _=> by omega⟩
 have hS1:∀W,Below W1.heap.size W1 W->W.cell? ⟨w.heap.size,0,none⟩=some (.slice q0 x1 r0)/\W.cell? ⟨w.heap.size,1,none⟩=some (.slice q1 x2 r1)/\W.cell? ⟨w.heap.size + 1,0,none⟩=some (.int .i64 form)/\W.cell? ⟨w.heap.size + 1,1,none⟩=some (.string text):=fun W hW=> by
  have e0:=(hW.block w.heap.size (by omega)).trans k0;have e1:=(hW.block (w.heap.size + 1) (by omega)).trans k1;exact ⟨by simp [World.cell?,e0],by simp [World.cell?,e0],by simp [World.cell?,e1],by simp [World.cell?,e1]⟩
 have hcall1:∀W,Below W1.heap.size W1 W->Calls Tryz.prog 131 #[.pointer (some ⟨wb,0,none⟩), .agg #[.slice q0 x1 r0, .slice q1 x2 r1], .string text] W fun e w'=> e= .returned (.string text)/\Hid (Below W1.heap.size W1 w')/\Hid (∀b o,W.heap[b]?=some o->w'.heap[b]?=some o):=fun W hW=> by
  have hbw:=b1.trans (hW.mono (by omega));refine (zd8 c hid B u W [.slice q0 x1 r0, .slice q1 x2 r1] text wb 0 ⟨#[]⟩ (.slice none 0 0) (.slice none 0 0) (hu.trans ((Below.keptC hbw).mono hB)) (by have:=hbw.size;omega) hch.1 ((hbw.block wb hwl).trans hw)).mono ?_;rintro e w' ⟨rfl,hb⟩;exact ⟨rfl,ZH (hW.trans (hb.mono hW.size)),ZH fun b o ho=> (hb.block b (ZG ho).1).trans ho⟩
 have HFD:=ZH hfd;have HFK:=ZH hfk;have HCL2:=ZH (show c.length + 900 * s<=80000 by omega);have HCL:=ZH hcl;have HL3:=ZH hl3;clear hfd hfk hcl hsz hl3;have HBW:Hid (Below W1.heap.size W1 W1.drew):=ZH (ZF _ _).drew;have HS1:=ZH hS1;have HTF1:=ZH hTF1;have HW:=ZH hW1;have HZ:=ZH z1;have k0':=k0;have k1':=k1;rw [hW1] at k0' k1';clear hS1 hTF1 hW1 z1 b1 k0 k1 k2 hw hf hla hld hlk;go_enter Tryz.func135,Tryz.ntmps135;go_upto_region 1 with fail;rw [<-HW.out]
 go_cut [7] from 14 (fun v7 wx=> ∃(ob:Nat),v7= .pointer (some ⟨ob,0,none⟩)/\Hid (w.heap.size + 3<=ob/\wx.heap[ob]?=some (.cells #[.int .i64 form, .string text, .slice none 0 0, .slice none 0 0, .slice none 0 0] 130)/\Below W1.heap.size W1 wx))
 case first=>
  clear k0' k1' hj0 hd0 hk0
  go_region_held3 (fun W=> W.cell? ⟨w.heap.size,0,none⟩=some (.slice q0 x1 r0)/\W.cell? ⟨w.heap.size,1,none⟩=some (.slice q1 x2 r1)/\W.cell? ⟨w.heap.size + 1,0,none⟩=some (.int .i64 form)/\W.cell? ⟨w.heap.size + 1,1,none⟩=some (.string text))
   (first | exact HS1.out _ HBW.out | exact HS1.out _ (HBW.out.alloc HBW.out.size _) | exact HS1.out _ (set5 HBW.out W1.heap.size (ZL _) _ _ _ _ _) | go_keep)
   (first
    | (go_at_call 131;refine (hcall1 _ HBW.out).mono ?_;rintro e w3 ⟨rfl,HBW,HKP⟩)
    | (go_at_call 131;refine (hcall1 _ (HBW.out.alloc HBW.out.size o130)).mono ?_;rintro e w3 ⟨rfl,HBW,HKP⟩;have hN:=HKP.out W1.heap.size o130 (ZN W1.drew o130);obtain ⟨cn0,cn1,cn2,cn3,cn4,cn5,cn6,cn7,cn8,cn9⟩:=jT hN))
  all_goals
   go_wp2_with fail;go_meet
   first
    | (have hN':=hN;exact ⟨_,rfl,ZH ⟨by have:=HZ.out;omega,zdM hN _ _ _ _ _,set5 HBW.out _ (ZL _) _ _ _ _ _⟩⟩)
    | exact ⟨_,rfl,ZH ⟨by have:=HZ.out;have:=HBW.out.size;omega,ZN _ _,HBW.out.alloc HBW.out.size _⟩⟩
 case rest=>
  obtain ⟨ob,rfl,hO⟩:=hcut;obtain ⟨W0,rfl⟩:∃W,W=wc:=⟨_,rfl⟩;have hTF0:TF w wb ob (.cells #[.int .i64 form, .string text, .slice a0 joins.length p0, .slice a1 defs.length p1, .slice a2 kids.length p2] 130) o130 B u q0 x1 r0 q1 x2 r1 W0:=HTF1.out W0 ob hO.out.2.2 hO.out.1 (ZG hO.out.2.1).1;have mj:W0.cell? ⟨w.heap.size + 1,2,none⟩=some (.slice a0 joins.length p0):=by simp [World.cell?,hTF0.arg]
  have h170:=zkD B u joins a0 p0 W0 hTF0.kept hTF0.bc (by omega) hj0 (by omega);obtain ⟨nl,hnl⟩:∃x,x=ql joins:=⟨_,rfl⟩;rw [<-hnl] at h170 hl9;have HNL:=ZH hnl;clear hnl
  have h134:∀W,Below W0.heap.size W0 W->Calls Tryz.prog 134 #[.pointer (some ⟨wb,0,none⟩), .agg #[.slice q0 x1 r0, .slice q1 x2 r1]] W fun e w'=> e= .returned (.bool false)/\Hid (Below W.heap.size W w'):=fun W hW=> by
   refine (ziu W _ _ wb 0 _ _ _ _ (by decide) (hTF0.later hW).walk).mono ?_;rintro e w' ⟨rfl,hb⟩;exact ⟨rfl,ZH hb⟩
  have h133:∀W v,Below W0.heap.size W0 W->yE W v nl->Calls Tryz.prog 133 #[.pointer (some ⟨wb,0,none⟩),v, .bool false] W fun e w'=> ∃v',e= .returned v'/\Hid (yE w' v' nl/\Below W.heap.size W w'):=fun W v hW hv=> by
   refine (zgb nl W v wb 0 _ _ _ _ false (by decide) (by decide) (hTF0.later hW).walk hv.strs (by omega)).mono ?_;rintro e w' ⟨v',rfl,ho,hb⟩;exact ⟨v',rfl,ZH ⟨ho,hb⟩⟩
  have H134:=ZH h134;have H133:=ZH h133;have HT0:=ZH hTF0;have HCC:Hid (∀W,Below W0.heap.size W0 W->W.cell? ⟨w.heap.size,0,none⟩=some (.slice q0 x1 r0)/\W.cell? ⟨w.heap.size,1,none⟩=some (.slice q1 x2 r1)):=ZH fun W hW=> ⟨(hTF0.later hW).chgCells.1,(hTF0.later hW).chgCells.2.1⟩;clear h134 h133 hTF0 HBW hcall1 HS1 k0' k1' HTF1;go_wp2_with (go_at_call 170;refine h170.mono ?_;clear h170;rintro e w2 ⟨l8,rfl,HO2,HB2⟩;have HO2:=ZH HO2;have HB2:=ZH HB2;obtain ⟨t0,t1⟩:=HCC.out _ HB2.out.drew);refine jg (fun W=> W.cell? ⟨w.heap.size,0,none⟩=some (.slice q0 x1 r0)/\W.cell? ⟨w.heap.size,1,none⟩=some (.slice q1 x2 r1)) 15 (by kernel_rfl) ?_;refine Sunk.takeD 0 (some 25) (.pointer (some ⟨wb,0,none⟩)) rfl rfl (by kernel_rfl) (by kernel_rfl) (by kernel_rfl) (by kernel_rfl) (fun _ _ _ h=> h) ⟨t0,t1⟩ (by rfl) (by rintro W _;go_simp) ?_
  (try simp only [ZS])
  refine Sunk.takeD 1 (some 26) (l8) rfl rfl (by kernel_rfl) (by kernel_rfl) (by kernel_rfl) (by kernel_rfl) (fun _ _ _ h=> h) ⟨t0,t1⟩ (by rfl) (by rintro W _;go_simp) ?_
  (try simp only [ZS])
  refine Sunk.takeD 2 (some 27) (.pointer (some ⟨wb,0,none⟩)) rfl rfl (by kernel_rfl) (by kernel_rfl) (by kernel_rfl) (by kernel_rfl) (fun _ _ _ h=> h) ⟨t0,t1⟩ (by rfl) (by rintro W _;go_simp) ?_
  (try simp only [ZS])
  refine Sunk.takeD 3 (some 28) (.agg #[.slice q0 x1 r0, .slice q1 x2 r1]) rfl rfl (by kernel_rfl) (by kernel_rfl) (by kernel_rfl) (by kernel_rfl) (fun _ _ _ h=> h) ⟨t0,t1⟩ (by rfl) (by rintro W ⟨e0,e1⟩;go_simp) ?_
  (try simp only [ZS])
  refine Sunk.one 4 (by kernel_rfl) rfl (by rfl) (fun K hK=> ?_);go_simp;go_at_call 134;refine (H134.out _ HB2.out.drew).mono ?_;rintro e w3 ⟨rfl,HB3⟩;obtain ⟨t4,t5⟩:=HCC.out w3 (HB2.out.drew.trans (HB3.out.mono HB2.out.size));refine hK.out _ _ (fun _=> ⟨t4,t5⟩) ?_;clear hK K
  (try simp only [ZS])
  refine Sunk.takeD 5 (some 30) (.bool false) rfl rfl (by kernel_rfl) (by kernel_rfl) (by kernel_rfl) (by kernel_rfl) (fun _ _ _ h=> h) ⟨t4,t5⟩ (by rfl) (by rintro W _;go_simp) ?_
  (try simp only [ZS])
  refine Sunk.skipD 6 (some 31) rfl rfl (by kernel_rfl) (by kernel_rfl) (by kernel_rfl) (by kernel_rfl) (fun _ _ _ h=> h) ⟨t4,t5⟩ (by rfl) ?_
  (try simp only [ZS])
  refine Sunk.skipD 7 (some 32) rfl rfl (by kernel_rfl) (by kernel_rfl) (by kernel_rfl) (by kernel_rfl) (fun _ _ _ h=> h) ⟨t4,t5⟩ (by rfl) ?_
  (try simp only [ZS])
  refine Sunk.skipD 8 (some 33) rfl rfl (by kernel_rfl) (by kernel_rfl) (by kernel_rfl) (by kernel_rfl) (fun _ _ _ h=> h) ⟨t4,t5⟩ (by rfl) ?_
  (try simp only [ZS])
  refine Sunk.skipD 9 (some 34) rfl rfl (by kernel_rfl) (by kernel_rfl) (by kernel_rfl) (by kernel_rfl) (fun _ _ _ h=> h) ⟨t4,t5⟩ (by rfl) ?_
  (try simp only [ZS])
  refine Sunk.skipD 10 (some 35) rfl rfl (by kernel_rfl) (by kernel_rfl) (by kernel_rfl) (by kernel_rfl) (fun _ _ _ h=> h) ⟨t4,t5⟩ (by rfl) ?_
  (try simp only [ZS])
  refine Sunk.skipD 11 (some 36) rfl rfl (by kernel_rfl) (by kernel_rfl) (by kernel_rfl) (by kernel_rfl) (fun _ _ _ h=> h) ⟨t4,t5⟩ (by rfl) ?_
  (try simp only [ZS])
  refine Sunk.skipD 12 (some 37) rfl rfl (by kernel_rfl) (by kernel_rfl) (by kernel_rfl) (by kernel_rfl) (fun _ _ _ h=> h) ⟨t4,t5⟩ (by rfl) ?_
  (try simp only [ZS])
  refine Sunk.takeD 13 (some 38) (.bool false) rfl rfl (by kernel_rfl) (by kernel_rfl) (by kernel_rfl) (by kernel_rfl) (fun _ _ _ h=> h) ⟨t4,t5⟩ (by rfl) (by rintro W _;go_simp) ?_
  (try simp only [ZS])
  refine Sunk.one 14 (by kernel_rfl) rfl (by rfl) (fun K hK=> ?_);go_simp;go_at_call 133;refine (H133.out w3 l8 (HB2.out.drew.trans (HB3.out.mono HB2.out.size)) ((HO2.out.later (ZF _ _).drew).later HB3.out)).mono ?_;rintro e w4 ⟨l9,rfl,H4⟩;obtain ⟨t8,t9⟩:=HCC.out w4 (((HB2.out.drew).trans (HB3.out.mono HB2.out.size)).trans (H4.out.2.mono (Nat.le_trans HB2.out.size HB3.out.size)));refine hK.out _ _ (fun _=> ⟨t8,t9⟩) ?_;clear hK K
  (try simp only [ZS])
  refine Sunk.one 15 (by kernel_rfl) rfl (by rfl) (fun K hK=> ?_);go_simp;refine hK.out _ _ (fun h=> absurd rfl h) ?_;clear hK K
  (try simp only [ZS])
  refine Sunk.done (by kernel_rfl) ?_;have HB4:Hid (Below W0.heap.size W0 w4):=ZH (((HB2.out.drew).trans (HB3.out.mono HB2.out.size)).trans (H4.out.2.mono (Nat.le_trans HB2.out.size HB3.out.size)));have HL8:Hid (yE w4 l8 nl):=ZH ((((HO2.out.later (ZF _ _).drew).later HB3.out)).later H4.out.2);have HL9:Hid (yE w4 l9 nl):=ZH H4.out.1;have HTF:Hid (TF w wb ob (.cells #[.int .i64 form, .string text, .slice a0 joins.length p0, .slice a1 defs.length p1, .slice a2 kids.length p2] 130) o130 B u q0 x1 r0 q1 x2 r1 w4/\zh B u u/\B<=B):=ZH ⟨HT0.out.later HB4.out,zh.refl _ _,ZL _⟩;have HST:Hid (zN yK 144 2 ob (fun v=> .cells #[.int .i64 form, .string text,v, .slice none 0 0, .slice none 0 0] 130) w4 [] 0 none 0 w4):=ZH (zN.start ((HB4.out.block ob (ZG hO.out.2.1).1).trans hO.out.2.1));clear HT0 H134 H133 HO2 HB2 HB3 H4 HCC t0 t1 t4 t5 t8 t9 hO mj
  have hcase:∃a9 c9,l9= .slice a9 nl.length c9/\nl.length<=c9/\c9<=maxLen/\(nl.length=0/\a9=none/\c9=0∨∃g,a9=some ⟨g,0,none⟩):=by
   obtain ⟨_,⟨h0,h1⟩ | ⟨g,cp,cur,h1,_,_,h3,h4,_⟩⟩:=HL9.out.own
   ·exact ⟨none,0,by rw [h0,h1],by omega,by omega, .inl ⟨h1,rfl,rfl⟩⟩
   ·exact ⟨_,cp,h1,h3,h4, .inr ⟨g,rfl⟩⟩
  obtain ⟨a9,c9,rfl,hc9,hc9m,hca⟩:=hcase;have HCA:=ZH (And.intro hc9 (And.intro hc9m hca));clear hc9 hc9m hca;go_wp2
  go_loopw [10,11,12] (fun ai i _ wr=> ∃(k m:Nat) (a:Option Addr) (cap:Nat),k<=joins.length/\ai= .int .i64 m/\i= .int .i64 k/\Hid (m=(ql (joins.take k)).length)/\Hid (zN yK 144 2 ob (fun v=> .cells #[.int .i64 form, .string text,v, .slice none 0 0, .slice none 0 0] 130) w4 (joins.take k) k a cap wr)) (fun _ i _ _=> joins.length - (intOf i).toNat)
  case atStart=> exact ⟨0,0,none,0,by omega,rfl,rfl,ZH (by simp [ql]),HST⟩
  case round=>
   obtain ⟨k,m,a,cap,hk,rfl,rfl,hm,hinv⟩:=hrel;have hTF:=TF.grown HTF.out.1 hinv.out.2.2.1;have hbx:=hinv.out.2.1;have hobs:=hTF.hi;have hku:zh B u wr:=hTF.kept;have m3:wr.cell? ⟨w.heap.size + 1,2,none⟩=some (.slice a0 joins.length p0):=by simp [World.cell?,hTF.arg]
   by_cases hlt:k < joins.length
   ·
    rcases hj0 with h0 | ⟨b0,o0,rfl,hB0,hc0⟩
    ·omega
    obtain ⟨d1,e1,f1⟩:=zX.get joins b0 o0 hc0 k hlt;have htk:=ZT hlt;have hBr:B<=wr.heap.size:=hTF.bc;have hnsp:=za8 joins k hlt
    have hml:m + (joins[k]).names.length<=nl.length/\(joins[k]).names=(nl.drop m).take (joins[k]).names.length:=by
     have g1:=xE joins (k + 1)
     have g2:ql joins=ql (joins.take (k + 1)) ++ ql (joins.drop (k + 1)):=by
      unfold ql;rw [<-List.flatMap_append,List.take_append_drop]
     rw [HNL.out,hm.out];rw [hnsp,List.length_append] at g1;refine ⟨g1,?_⟩;rw [g2,hnsp,List.append_assoc,List.drop_left,List.take_left]
    obtain ⟨jk,hjk⟩:∃x,x=joins[k]:=⟨_,rfl⟩;rw [<-hjk] at f1 htk hnsp hml;obtain ⟨jt,jn⟩:=jk;obtain ⟨hjz,_,rfl,hnm⟩:=f1;have hjnz:=zx.lenmax hnm;obtain ⟨na,nc,rfl,-⟩:=hnm;dsimp only at hml hjz hjnz hnsp e1
    have hSM:∀W,Below wr.heap.size wr W->(W.cell? ⟨w.heap.size,0,none⟩=some (.slice q0 x1 r0)/\W.cell? ⟨w.heap.size,1,none⟩=some (.slice q1 x2 r1)/\W.cell? ⟨w.heap.size + 1,2,none⟩=some (.slice (some ⟨b0,o0,none⟩) joins.length p0)/\W.cell? ⟨b0,o0 + k * 2,none⟩=some (.string jt))/\W.cell? ⟨b0,o0 + k * 2 + 1,none⟩=some (.slice na jn.length nc):=fun W hW=> by
     have hTW:=hTF.later hW;obtain ⟨y0,y1,_,_⟩:=hTW.chgCells;obtain ⟨y2,y3⟩:=yO (e1.keep hTW.kept hB0);exact ⟨⟨y0,y1,by simp [World.cell?,hTW.arg],y2⟩,y3⟩
    have hcallM:∀W,Below wr.heap.size wr W->Calls Tryz.prog 131 #[.pointer (some ⟨wb,0,none⟩), .agg #[.slice q0 x1 r0, .slice q1 x2 r1], .string jt] W fun e w'=> e= .returned (.string jt)/\Hid (Below wr.heap.size wr w')/\Hid (∀b o,W.heap[b]?=some o->w'.heap[b]?=some o):=fun W hW=> by
     have hTW:=hTF.later hW;refine (zd8 c hid B u W [.slice q0 x1 r0, .slice q1 x2 r1] jt wb 0 ⟨#[]⟩ (.slice none 0 0) (.slice none 0 0) hTW.kept hTW.bc hch.1 hTW.walk).mono ?_;rintro e w' ⟨rfl,hb⟩;exact ⟨rfl,ZH (hW.trans (hb.mono hW.size)),ZH fun b o ho=> (hb.block b (ZG ho).1).trans ho⟩
    have HSM:=ZH hSM;have HCM:=ZH hcallM;have HML:=ZH hml;have HTK:=ZH (And.intro htk hnsp);have HLR:Hid (yE wr (.slice a9 nl.length c9) nl):=ZH (HL9.out.grown hinv.out.2.2.1 (HST.out.2.1));have HBX:=ZH hbx;have HJZ:=ZH (And.intro hjz hjnz);have HBW:Hid (Below wr.heap.size wr wr.drew):=ZH (ZF _ _).drew;have HOB:=ZH (And.intro hobs (And.intro hTF.lo (Nat.le_of_lt (Nat.lt_of_lt_of_le hB0 hBr))));clear hSM hcallM hml htk hnsp hbx hTF hjz hjnz e1 hc0 hku hBr hobs hjk;go_wp2
    go_cut [12] from 40 to 83 (fun s12 wx=> ∃(mb:Nat),s12= .pointer (some ⟨mb,0,none⟩)/\Hid (wr.heap.size<=mb/\wx.heap[mb]?=some (.cells #[.string jt, .slice none 0 0] 144)/\Below wr.heap.size wr wx))
    case first=>
     go_region_held3 (fun W=> W.cell? ⟨w.heap.size,0,none⟩=some (.slice q0 x1 r0)/\W.cell? ⟨w.heap.size,1,none⟩=some (.slice q1 x2 r1)/\W.cell? ⟨w.heap.size + 1,2,none⟩=some (.slice (some ⟨b0,o0,none⟩) joins.length p0)/\W.cell? ⟨b0,o0 + k * 2,none⟩=some (.string jt))
      (first | exact (HSM.out _ HBW.out).1 | exact (HSM.out _ (HBW.out.alloc HBW.out.size _)).1 | exact (HSM.out _ ((HBW.out.setCell (p:=⟨wr.heap.size,0,none⟩) (ZL _) _).setCell (p:=⟨wr.heap.size,1,none⟩) (ZL _) _)).1 | go_keep)
      (first
       | (go_at_call 131;refine (HCM.out _ HBW.out).mono ?_;rintro e w3 ⟨rfl,HBW,HKP⟩)
       | (go_at_call 131;refine (HCM.out _ (HBW.out.alloc HBW.out.size o144)).mono ?_;rintro e w3 ⟨rfl,HBW,HKP⟩;have hN:=HKP.out wr.heap.size o144 (ZN wr.drew o144);obtain ⟨cn0,cn1,cn2,cn3⟩:=zar hN))
     all_goals
      go_wp2_with fail;go_meet
      first
       | (have hN':=hN;exact ⟨_,rfl,ZH ⟨ZL _,by have:=qD (qD hN 0 (.string jt)) 1 (.slice none 0 0);simpa using this,(HBW.out.setCell (p:=⟨wr.heap.size,0,none⟩) (ZL _) _).setCell (p:=⟨wr.heap.size,1,none⟩) (ZL _) _⟩⟩)
       | exact ⟨_,rfl,ZH ⟨HBW.out.size,ZN _ _,HBW.out.alloc HBW.out.size _⟩⟩
    case rest=>
     obtain ⟨mb,rfl,hM⟩:=hcut;obtain ⟨wM,rfl⟩:∃W,W=wc:=⟨_,rfl⟩;have hMd:Below wr.heap.size wr wM.drew:=hM.out.2.2.drew;obtain ⟨⟨g3,g4,g1,g5⟩,g2⟩:=HSM.out _ hMd;obtain ⟨g6,g0,g7,g8⟩:=zar (W:=wM.drew) hM.out.2.1;have HL9M:Hid (yE wM.drew (.slice a9 nl.length c9) nl):=ZH (HLR.out.later hMd);have hml:=HML.out;have hca:=HCA.out;have hwr:IntKind.i64.wrap ((m:Int) + (jn.length:Int))=(m:Int) + (jn.length:Int):=by rw [IntKind.wrap_i64];omega
     obtain ⟨sa,hsa⟩:∃x,x=if c9=m then a9 else Option.map (fun x=> x.add m) a9:=⟨_,rfl⟩
     have hss:zx wM.drew.heap.size wM.drew (.slice sa jn.length (c9 - m)) jn:=by
      obtain ⟨aa,cc,e,_,_,_,hcl⟩:=HL9M.out.strs;cases e;refine ⟨sa,c9 - m,rfl,by omega,HJZ.out.2,fun e=> ?_,?_⟩
      ·rw [hsa] at e
       rcases hca.2.2 with ⟨_,h1,h2⟩ | ⟨g,h1⟩
       ·omega
       ·rw [h1] at e
        split at e <;> cases e
      ·by_cases h0:jn.length=0
       ·exact .inl (List.length_eq_zero_iff.1 h0)
       ·rcases hcl with h | ⟨b,off,h1,h2,h3⟩
        ·have h1':=hml.1
         rw [h,List.length_nil] at h1';omega
        ·refine .inr ⟨b,off + m,?_,h2,fun j hj=> ?_⟩
         ·rw [hsa,if_neg (by omega),h1]
          show some ((⟨b,off,none⟩:Addr).add m)=_;unfold Addr.add;by_cases hm0:m=0 <;> simp [hm0]
         ·have e2:jn[j]?=((nl.drop m).take jn.length)[j]?:=congrArg (fun l=> l[j]?) hml.2
          rw [List.getElem?_take_of_lt hj,List.getElem?_drop] at e2;have hl:m + j < nl.length:=by omega
          rw [List.getElem?_eq_getElem hj,List.getElem?_eq_getElem hl] at e2;have:=h3 (m + j) hl;rw [<-Nat.add_assoc] at this;rw [this,ZJ e2]
     have HQ:Hid (m + jn.length<=c9):=ZH (by omega);obtain ⟨v5,w5,hr5,ho5,hz5,hg5⟩:=yQ (w:=wM.drew) (A:=wr.heap.size) (v1:= .slice none 0 0) (s1:= []) 22 (ZR _ _ _ _) hss hMd.size (by simp) (by omega) (by simp);rw [List.nil_append] at ho5 hz5;obtain ⟨x5,c5,rfl,-⟩:=zJ (by omega) ho5;have hb5:Below wr.heap.size wr w5:=hMd.grown hg5 hMd.size (fun r e=> by cases e);obtain ⟨⟨f3,f4,f1,f5⟩,f2⟩:=HSM.out _ hb5;have hN5:w5.heap[mb]?=some (.cells #[.string jt, .slice none 0 0] 144):=(hg5.block mb (ZG hM.out.2.1).1 (fun e=> by cases e)).trans hM.out.2.1;obtain ⟨f6,f0,f7,f8⟩:=zar hN5;obtain ⟨w6,hw6⟩:∃W,W=w5.setCell ⟨mb,1,none⟩ (.slice x5 jn.length c5):=⟨_,rfl⟩;have hb6:Below wr.heap.size wr w6:=by rw [hw6];exact hb5.setCell (p:=⟨mb,1,none⟩) hM.out.1 _
     have hN6:w6.heap[mb]?=some (.cells #[.string jt, .slice x5 jn.length c5] 144):=by rw [hw6];have:=qD hN5 1 (.slice x5 jn.length c5);simpa using this
     have hat6:yK w6.heap.size (blank wr.heap.size w6) [.string jt, .slice x5 jn.length c5] ⟨jt,jn⟩:=by
      refine ⟨HJZ.out.1,_,rfl,zco ?_ hz5⟩;rw [hw6];exact zt (row:=some mb) ho5 ⟨rfl,rfl,rfl,by simp [World.setCell],fun b hb hne=> ZC _ _ _ _ (fun e=> hne (by rw [e]))⟩ (fun b hb e=> zae ho5 hN5 (by decide) (by rw [hb,<-ZJ e]))
     obtain ⟨gg,cp,w7,r1',r2',r3',r4'⟩:=zN.step xY zmp (zll ob _ _ _ _) hinv.out (by omega) HTF.out.1.hi hb6 [.string jt, .slice x5 jn.length c5] rfl (by simp [Value.oneCell']) ⟨jt,jn⟩ hat6;rw [<-HTK.out.1] at r4';obtain ⟨n6,n7,_,_⟩:=zar hN6;have n8:w6.cell? ⟨ob,2,none⟩=some (.slice a k cap):=by have:=(hb6.block ob HOB.out.1).trans HBX.out;simp [World.cell?,this]
     have n9:=n7;rw [hw6] at n9;have HW6:=ZH hw6;have HM2:=ZH (show m + jn.length=(ql (joins.take (k + 1))).length by rw [HTK.out.2,List.length_append,hm.out]);have HSA:=ZH hsa;clear hsa hss ho5 hz5 hg5 hb5 hN5 hN6 hat6 hb6 hw6 HL9M hMd g3 g4 g5 hca hml;go_upto_region 9 with fail;refine jg (fun W=> W.cell? ⟨mb,1,none⟩=some (.slice none 0 0)/\W.cell? ⟨w.heap.size + 1,2,none⟩=some (.slice (some ⟨b0,o0,none⟩) joins.length p0)/\W.cell? ⟨b0,o0 + k * 2 + 1,none⟩=some (.slice na jn.length nc)) 16 (by kernel_rfl) ?_;refine Sunk.takeD 0 (some 57) (.pointer (some ⟨mb,1,none⟩)) rfl rfl (by kernel_rfl) (by kernel_rfl) (by kernel_rfl) (by kernel_rfl) (fun _ _ _ h=> h) ⟨g0,g1,g2⟩ (by rfl) (by rintro W ⟨e0,e1,e2⟩;go_simp) ?_
     (try simp only [ZS])
     refine Sunk.takeD 1 (some 58) (.slice none 0 0) rfl rfl (by kernel_rfl) (by kernel_rfl) (by kernel_rfl) (by kernel_rfl) (fun _ _ _ h=> h) ⟨g0,g1,g2⟩ (by rfl) (by rintro W ⟨e0,e1,e2⟩;go_simp) ?_
     (try simp only [ZS])
     refine Sunk.takeD 2 (some 59) (.slice a9 nl.length c9) rfl rfl (by kernel_rfl) (by kernel_rfl) (by kernel_rfl) (by kernel_rfl) (fun _ _ _ h=> h) ⟨g0,g1,g2⟩ (by rfl) (by rintro W ⟨e0,e1,e2⟩;go_simp) ?_
     (try simp only [ZS])
     refine Sunk.takeD 3 (some 60) (.int .i64 m) rfl rfl (by kernel_rfl) (by kernel_rfl) (by kernel_rfl) (by kernel_rfl) (fun _ _ _ h=> h) ⟨g0,g1,g2⟩ (by rfl) (by rintro W ⟨e0,e1,e2⟩;go_simp) ?_
     (try simp only [ZS])
     refine Sunk.takeD 4 (some 61) (.int .i64 m) rfl rfl (by kernel_rfl) (by kernel_rfl) (by kernel_rfl) (by kernel_rfl) (fun _ _ _ h=> h) ⟨g0,g1,g2⟩ (by rfl) (by rintro W ⟨e0,e1,e2⟩;go_simp) ?_
     (try simp only [ZS])
     refine Sunk.takeD 5 (some 62) (.pointer (some ⟨w.heap.size + 1,2,none⟩)) rfl rfl (by kernel_rfl) (by kernel_rfl) (by kernel_rfl) (by kernel_rfl) (fun _ _ _ h=> h) ⟨g0,g1,g2⟩ (by rfl) (by rintro W ⟨e0,e1,e2⟩;go_simp) ?_
     (try simp only [ZS])
     refine Sunk.takeD 6 (some 63) (.slice (some ⟨b0,o0,none⟩) joins.length p0) rfl rfl (by kernel_rfl) (by kernel_rfl) (by kernel_rfl) (by kernel_rfl) (fun _ _ _ h=> h) ⟨g0,g1,g2⟩ (by rfl) (by rintro W ⟨e0,e1,e2⟩;go_simp) ?_
     (try simp only [ZS])
     refine Sunk.takeD 7 (some 64) (.int .i64 k) rfl rfl (by kernel_rfl) (by kernel_rfl) (by kernel_rfl) (by kernel_rfl) (fun _ _ _ h=> h) ⟨g0,g1,g2⟩ (by rfl) (by rintro W ⟨e0,e1,e2⟩;go_simp) ?_
     (try simp only [ZS])
     refine Sunk.takeD 8 (some 65) (.pointer (some ⟨b0,o0 + k * 2,none⟩)) rfl rfl (by kernel_rfl) (by kernel_rfl) (by kernel_rfl) (by kernel_rfl) (fun _ _ _ h=> h) ⟨g0,g1,g2⟩ (by rfl) (by rintro W ⟨e0,e1,e2⟩;go_simp) ?_
     (try simp only [ZS])
     refine Sunk.takeD 9 (some 66) (.pointer (some ⟨b0,o0 + k * 2 + 1,none⟩)) rfl rfl (by kernel_rfl) (by kernel_rfl) (by kernel_rfl) (by kernel_rfl) (fun _ _ _ h=> h) ⟨g0,g1,g2⟩ (by rfl) (by rintro W ⟨e0,e1,e2⟩;go_simp) ?_
     (try simp only [ZS])
     refine Sunk.takeD 10 (some 67) (.slice na jn.length nc) rfl rfl (by kernel_rfl) (by kernel_rfl) (by kernel_rfl) (by kernel_rfl) (fun _ _ _ h=> h) ⟨g0,g1,g2⟩ (by rfl) (by rintro W ⟨e0,e1,e2⟩;go_simp) ?_
     (try simp only [ZS])
     refine Sunk.takeD 11 (some 68) (.int .i64 jn.length) rfl rfl (by kernel_rfl) (by kernel_rfl) (by kernel_rfl) (by kernel_rfl) (fun _ _ _ h=> h) ⟨g0,g1,g2⟩ (by rfl) (by rintro W ⟨e0,e1,e2⟩;go_simp) ?_
     (try simp only [ZS])
     refine Sunk.takeD 12 (some 69) (.int .i64 (m + jn.length)) rfl rfl (by kernel_rfl) (by kernel_rfl) (by kernel_rfl) (by kernel_rfl) (fun _ _ _ h=> h) ⟨g0,g1,g2⟩ (by rfl) (by rintro W ⟨e0,e1,e2⟩;go_simp) ?_
     (try simp only [ZS])
     refine Sunk.takeD 13 (some 70) (.slice sa jn.length (c9 - m)) rfl rfl (by kernel_rfl) (by kernel_rfl) (by kernel_rfl) (by kernel_rfl) (fun _ _ _ h=> h) ⟨g0,g1,g2⟩ (by rfl) (by rintro W _;go_simp;have hq:=HQ.out;rw [if_pos (by constructor <;> omega),if_pos (by omega),show ((m:Int) + (jn.length:Int)).toNat - m=jn.length by omega,<-HSA.out]) ?_
     (try simp only [ZS])
     refine Sunk.one 14 (by kernel_rfl) rfl (by rfl) (fun K hK=> ?_);show Oper.wp _ ⟨some 71, .call { callee:= .builtin .append,args:=#[.tmp 58, .tmp 70],argTypes:=#[22,22] },22,_,_,none⟩ _ _ _ _;refine xu (.tmp 58) (.tmp 70) 22 22 rfl rfl rfl hr5 ?_;refine hK.out _ _ (fun _=> ⟨f0,f1,f2⟩) ?_;clear hK K
     (try simp only [ZS])
     refine Sunk.takeD 15 (some 72) (.pointer (some ⟨mb,1,none⟩)) rfl rfl (by kernel_rfl) (by kernel_rfl) (by kernel_rfl) (by kernel_rfl) (fun _ _ _ h=> h) ⟨f0,f1,f2⟩ (by rfl) (by rintro W ⟨e0,e1,e2⟩;go_simp) ?_
     (try simp only [ZS])
     refine Sunk.one 16 (by kernel_rfl) rfl (by rfl) (fun K hK=> ?_);go_simp;refine hK.out _ _ (fun h=> absurd rfl h) ?_;clear hK K
     (try simp only [ZS])
     refine Sunk.done (by kernel_rfl) ?_;clear hr5 f0 f1 f2 f3 f4 f5 f6 f7 f8 g0 g1 g2 g6 g7 g8 m3 HSM HCM HLR HTK HBX HJZ HBW HOB HQ HSA HML hM;go_upto_region 11 with fail;rw [<-HW6.out];go_wp2_with (show wpList _ _ _ (⟨some 82,_,_,_,_,_⟩::_) _ _;refine qe rfl (.tmp 79) (.tmp 81) 128 128 rfl rfl rfl r1' ?_);go_roundw
     case rel=> exact ⟨k + 1,m + jn.length,some ⟨gg,0,none⟩,cp,by omega,by go_num,by go_num,HM2,r4'⟩
     case measure=> simp [intOf];omega
   ·obtain rfl:k=joins.length:=by omega
    obtain ⟨Wj,rfl⟩:∃W,W=wr:=⟨_,rfl⟩;obtain ⟨aA,rfl⟩:∃x,x=a:=⟨_,rfl⟩;obtain ⟨cA,rfl⟩:∃x,x=cap:=⟨_,rfl⟩;have HA:=ZH (zN.msgsDone hinv.out HTF.out.1.hi);have HL8:Hid (yE Wj l8 nl):=ZH (HL8.out.grown hinv.out.2.2.1 HST.out.2.1);have HL9:Hid (yE Wj (.slice a9 nl.length c9) nl):=ZH (HL9.out.grown hinv.out.2.2.1 HST.out.2.1);have HTF:=ZH (And.intro hTF HTF.out.2);have HST:Hid (zN zo 130 5 ob (fun v=> .cells #[.int .i64 form, .string text, .slice aA joins.length cA,v, .slice none 0 0] 130) Wj [] 0 none 0 Wj):=ZH (zN.start hbx);clear hTF hku hbx hobs hinv hm;go_wp2
    go_loopw [13] (fun i wr=> ∃(k:Nat) (a:Option Addr) (cap:Nat),k<=defs.length/\i= .int .i64 k/\Hid (zN zo 130 5 ob (fun v=> .cells #[.int .i64 form, .string text, .slice aA joins.length cA,v, .slice none 0 0] 130) Wj (defs.take k) k a cap wr)) (fun i _=> defs.length - (intOf i).toNat)
    case atStart=> exact ⟨0,none,0,by omega,rfl,HST⟩
    case round=>
     obtain ⟨k,a,cap,hk,rfl,hinv⟩:=hrel;have hTF:=TF.grown HTF.out.1 hinv.out.2.2.1;have hbx:=hinv.out.2.1;have hobs:=hTF.hi;have hku:zh B u wr:=HTF.out.2.1.trans (hTF.kept.mono HTF.out.2.2);have m3:wr.cell? ⟨w.heap.size + 1,3,none⟩=some (.slice a1 defs.length p1):=by simp [World.cell?,hTF.arg]
     by_cases hlt:k < defs.length
     ·
      rcases hd0 with h0 | ⟨b0,o0,rfl,hB0,hc0⟩
      ·omega
      obtain ⟨d1,e1,f1⟩:=zr.get defs b0 o0 hc0 k hlt;have hBr:B<=wr.heap.size:=Nat.le_trans HTF.out.2.2 hTF.bc;have htk:=ZT hlt;have hmem:=ZM hlt;obtain ⟨hfm,hsm⟩:=HFD.out _ hmem;have hcall:=fun W (hW:Below wr.heap.size wr W) (es:List Value) (he:zo B u es defs[k])=> zN.callC (zgR ob _ _ _ _) hinv.out (by omega) HTF.out.1.hi hW (hC defs[k] hsm hfm c hid HCL2.out B u W wb [.slice q0 x1 r0, .slice q1 x2 r1] es (hTF.later hW).kept (hTF.later hW).bc (hTF.later hW).walk hch he);rw [<-htk] at hcall;obtain ⟨ek,hek⟩:∃x,x=defs[k]:=⟨_,rfl⟩;rw [<-hek] at f1 hcall;clear htk hek hmem;obtain ⟨g0,g1,g2,g3,g4,g5,g6,g7,g8,g9,gA,rfl⟩:=qW f1
      have hS:∀W,Below wr.heap.size wr W->(W.cell? ⟨ob,3,none⟩=some (.slice a k cap)/\W.cell? ⟨w.heap.size,0,none⟩=some (.slice q0 x1 r0)/\W.cell? ⟨w.heap.size,1,none⟩=some (.slice q1 x2 r1)/\W.cell? ⟨w.heap.size + 1,3,none⟩=some (.slice (some ⟨b0,o0,none⟩) defs.length p1))/\W.cell? ⟨b0,o0 + k * 5,none⟩=some (.int .i64 g0)/\W.cell? ⟨b0,o0 + k * 5 + 1,none⟩=some (.string g1)/\W.cell? ⟨b0,o0 + k * 5 + 2,none⟩=some (.slice g2 g3 g4)/\W.cell? ⟨b0,o0 + k * 5 + 3,none⟩=some (.slice g5 g6 g7)/\W.cell? ⟨b0,o0 + k * 5 + 4,none⟩=some (.slice g8 g9 gA):=fun W hW=> by
       have hT:=hTF.later hW;obtain ⟨y0,y1,_,_⟩:=hT.chgCells;exact ⟨⟨by have:=(hW.block ob hobs).trans hbx;simp [World.cell?,this],y0,y1,by simp [World.cell?,hT.arg]⟩,zK (e1.keep (HTF.out.2.1.trans (hT.kept.mono HTF.out.2.2)) hB0)⟩
      have hd:Below wr.heap.size wr wr.drew:=(ZF _ _).drew;have hc:=hcall wr.drew hd _ f1;obtain ⟨⟨s0,s1,s2,s3⟩,s5,s6,s7,s8,s9⟩:=hS wr.drew hd;have HS:=ZH hS;clear hc0 f1 e1 hbx hobs hS hcall hTF hku hBr hinv hd;go_wp2
      go_region_law (first
       | (revert hr;intro hr;refine zU rfl (.tmp 92) (.tmp 101) 30 30 rfl rfl rfl hr ?_)
       | (go_simp;go_wp2_with (go_at_call 135;refine hc.mono ?_;rintro e' w3 ⟨e0,e1,e2,e3,e4,e5,e6,e7,e8,e9,eA,gg,cp,w5,rfl,hb3,hr,hw1,hw2,hfin⟩;obtain ⟨⟨t0,t1,t2,t3⟩,t5,t6,t7,t8,t9⟩:=HS.out w3 hb3.out;obtain ⟨⟨v0,v1,v2,v3⟩,v5,v6,v7,v8,v9⟩:=HS.out (w3.alloc (.cells #[.int .i64 e0, .string e1, .slice e2 e3 e4, .slice e5 e6 e7, .slice e8 e9 eA] 130)) (hb3.out.alloc hb3.out.size _))))
      all_goals
       clear hr hw1 hw2 hc;go_wp2;go_roundw
       case rel=> exact ⟨k + 1,some ⟨gg,0,none⟩,cp,by omega,by go_num,hfin⟩
       case measure=> simp [intOf];omega
     ·obtain rfl:k=defs.length:=by omega
      obtain ⟨Wd,rfl⟩:∃W,W=wr:=⟨_,rfl⟩;obtain ⟨aD,rfl⟩:∃x,x=a:=⟨_,rfl⟩;obtain ⟨cD,rfl⟩:∃x,x=cap:=⟨_,rfl⟩;have HD:=ZH (zN.clausesDone hinv.out HTF.out.1.hi);have HUD:Hid (zE (ob + 1) Wj Wd):=ZH (zE.of_grown hinv.out.2.2.1 (by omega));have HL8:Hid (yE Wd l8 nl):=ZH (HL8.out.grown hinv.out.2.2.1 HST.out.2.1);have HL9:Hid (yE Wd (.slice a9 nl.length c9) nl):=ZH (HL9.out.grown hinv.out.2.2.1 HST.out.2.1);have hk1:0 < kids.length:=by have:=HL3.out;omega
      rcases hk0 with h0 | ⟨b0,o0,rfl,hB0,hc0⟩
      ·omega
      obtain ⟨d1,e1,f1⟩:=zu.get kids b0 o0 hc0 0 hk1;rw [Nat.zero_mul,Nat.add_zero] at e1;obtain ⟨hfm,hsm⟩:=HFK.out _ (ZM hk1)
      have hks:kids= [kids[0]]:=by
       apply List.ext_getElem
       ·rw [HL3.out];rfl
       ·intro i h1 h2
        obtain rfl:i=0:=by simp at h2;omega
        rfl
      obtain ⟨kd,hkd⟩:∃x,x=kids[0]:=⟨_,rfl⟩;rw [<-hkd] at f1 hfm hsm hks;obtain ⟨g0,g1,g2,g3,g4,g5,g6,g7,g8,g9,gA,rfl⟩:=zz f1
      have hSD:∀W,TF w wb ob (.cells #[.int .i64 form, .string text, .slice a0 joins.length p0, .slice a1 defs.length p1, .slice (some ⟨b0,o0,none⟩) kids.length p2] 130) o130 B u q0 x1 r0 q1 x2 r1 W->W.cell? ⟨ob,4,none⟩=some (.slice none 0 0)->W.cell? ⟨ob,4,none⟩=some (.slice none 0 0)/\W.cell? ⟨w.heap.size,0,none⟩=some (.slice q0 x1 r0)/\W.cell? ⟨w.heap.size,1,none⟩=some (.slice q1 x2 r1)/\W.cell? ⟨w.heap.size + 1,4,none⟩=some (.slice (some ⟨b0,o0,none⟩) kids.length p2)/\W.cell? ⟨b0,o0,none⟩=some (.int .i64 g0)/\W.cell? ⟨b0,o0 + 1,none⟩=some (.string g1)/\W.cell? ⟨b0,o0 + 2,none⟩=some (.slice g2 g3 g4)/\W.cell? ⟨b0,o0 + 3,none⟩=some (.slice g5 g6 g7)/\W.cell? ⟨b0,o0 + 4,none⟩=some (.slice g8 g9 gA):=fun W hTW hob=> by
       obtain ⟨z0,z1,_,_⟩:=hTW.chgCells;obtain ⟨z2,z3,z4,z5,z6⟩:=zK (e1.keep hTW.kept hB0);exact ⟨hob,z0,z1,by simp [World.cell?,hTW.arg],z2,z3,z4,z5,z6⟩
      have hobc:∀W,Below Wd.heap.size Wd W->W.cell? ⟨ob,4,none⟩=some (.slice none 0 0):=fun W hW=> by
       have:=(hW.block ob hobs).trans hbx;simp [World.cell?,this]
      have HSD:Hid (∀W,Below Wd.heap.size Wd W->W.cell? ⟨ob,4,none⟩=some (.slice none 0 0)/\W.cell? ⟨w.heap.size,0,none⟩=some (.slice q0 x1 r0)/\W.cell? ⟨w.heap.size,1,none⟩=some (.slice q1 x2 r1)/\W.cell? ⟨w.heap.size + 1,4,none⟩=some (.slice (some ⟨b0,o0,none⟩) kids.length p2)/\W.cell? ⟨b0,o0,none⟩=some (.int .i64 g0)/\W.cell? ⟨b0,o0 + 1,none⟩=some (.string g1)/\W.cell? ⟨b0,o0 + 2,none⟩=some (.slice g2 g3 g4)/\W.cell? ⟨b0,o0 + 3,none⟩=some (.slice g5 g6 g7)/\W.cell? ⟨b0,o0 + 4,none⟩=some (.slice g8 g9 gA)):=ZH fun W hW=> hSD W (hTF.later hW) (hobc W hW);have hcl0:=HCL.out
      have H132:Hid (∀W,Below Wd.heap.size Wd W->Calls Tryz.prog 132 #[.agg #[.slice q0 x1 r0, .slice q1 x2 r1],l8, .slice a9 nl.length c9] W fun e w'=> ∃y0 y1 y2 y3 y4 y5,e= .returned (.agg #[.slice y0 y1 y2, .slice y3 y4 y5])/\Hid (Below Wd.heap.size Wd w'/\∃(Bc:Nat) (uc:World),zh Bc uc w'/\Bc<=w'.heap.size/\zh B u uc/\B<=Bc/\xI Bc uc [.slice y0 y1 y2, .slice y3 y4 y5] (zaD c nl))):=ZH fun W hW=> by
       have hTW:=hTF.later hW;refine (zhl c nl nl rfl B u W [.slice q0 x1 r0, .slice q1 x2 r1] l8 (.slice a9 nl.length c9) hTW.kept hTW.bc hch (HL8.out.later hW).strs (HL9.out.later hW).strs (by omega) (by omega)).mono ?_;rintro e w' ⟨rs,rfl,hin,hb⟩;rw [zee] at hin;have hin':=hin;obtain ⟨⟨v1,v2,rfl,hs1,hs2⟩,-⟩:=hin';obtain ⟨y0,y2,rfl,-⟩:=hs1;obtain ⟨y3,y5,rfl,-⟩:=hs2;have hbw:=hW.trans (hb.mono hW.size);refine ⟨y0,_,y2,y3,_,y5,rfl,ZH ⟨hbw,w'.heap.size,mid u B W.heap.size w',zdn (hTF.later hbw).kept _ _,ZL _,fun b o x hb' hx=> ?_,by have:=hTW.bc;have:=hb.size;omega,hin⟩⟩;have:=zD (hTW.kept b o x hb' hx);exact (yM _ _ _ _ _ _ _).2 ⟨by have:=hb.size;omega, .inl ⟨hb',hx⟩⟩
      have H81:Hid (∀W y0 y1 y2 y3 y4 y5,Below Wd.heap.size Wd W->(∃(Bc:Nat) (uc:World),zh Bc uc W/\Bc<=W.heap.size/\zh B u uc/\B<=Bc/\xI Bc uc [.slice y0 y1 y2, .slice y3 y4 y5] (zaD c nl))->Calls Tryz.prog 81 #[.pointer (some ⟨wb,0,none⟩), .agg #[.slice y0 y1 y2, .slice y3 y4 y5], .agg #[.int .i64 g0, .string g1, .slice g2 g3 g4, .slice g5 g6 g7, .slice g8 g9 gA]] W fun e w'=> ∃(c0:Int) (c1:ByteArray) (c2:Option Addr) (c3 c4:Nat) (c5:Option Addr) (c6 c7:Nat) (c8:Option Addr) (c9 c10 gg cp:Nat) (w5:World),e= .returned (.agg #[.int .i64 c0, .string c1, .slice c2 c3 c4, .slice c5 c6 c7, .slice c8 c9 c10])/\Hid (Below Wd.heap.size Wd w')/\
         (Builtin.append_ #[31,31] 31 #[.slice none 0 0, .slice (some ⟨w'.heap.size,0,none⟩) 1 1]).run Tryz.prog (w'.alloc (.cells #[.int .i64 c0, .string c1, .slice c2 c3 c4, .slice c5 c6 c7, .slice c8 c9 c10] 33))= .ok (.slice (some ⟨gg,0,none⟩) 1 cp) w5/\
         w5.cell? ⟨ob,4,none⟩=some (.slice none 0 0)/\w5.frozen? ⟨ob,4,none⟩=false/\Hid (zN ze 33 5 ob (fun v=> .cells #[.int .i64 form, .string text, .slice aA joins.length cA, .slice aD defs.length cD,v] 130) Wd [kd] 1 (some ⟨gg,0,none⟩) cp (w5.setCell ⟨ob,4,none⟩ (.slice (some ⟨gg,0,none⟩) 1 cp)))/\Hid (w5.cell? ⟨ob,4,none⟩=some (.slice none 0 0)/\w5.cell? ⟨w.heap.size,0,none⟩=some (.slice q0 x1 r0)/\w5.cell? ⟨w.heap.size,1,none⟩=some (.slice q1 x2 r1)/\w5.cell? ⟨w.heap.size + 1,4,none⟩=some (.slice (some ⟨b0,o0,none⟩) kids.length p2)/\w5.cell? ⟨b0,o0,none⟩=some (.int .i64 g0)/\w5.cell? ⟨b0,o0 + 1,none⟩=some (.string g1)/\w5.cell? ⟨b0,o0 + 2,none⟩=some (.slice g2 g3 g4)/\w5.cell? ⟨b0,o0 + 3,none⟩=some (.slice g5 g6 g7)/\w5.cell? ⟨b0,o0 + 4,none⟩=some (.slice g8 g9 gA))):=ZH fun W y0 y1 y2 y3 y4 y5 hW hex=> by
       obtain ⟨Bc,uc,h1,h2,h3,h4,h5⟩:=hex;have hTW:=hTF.later hW;refine (zN.callT (zgU ob _ _ _ _) (zN.start hbx) (by omega) hobs hW (hT kd hsm hfm (zaD c nl) (hid.plus nl) (by unfold zaD;rw [List.length_append,List.length_map];omega) Bc uc W wb [.slice y0 y1 y2, .slice y3 y4 y5] [.int .i64 g0, .string g1, .slice g2 g3 g4, .slice g5 g6 g7, .slice g8 g9 gA] h1 h2 hTW.walk h5 (ze.keep h3 h4 _ _ f1))).mono ?_;rintro e w' ⟨c0,c1,c2,c3,c4,c5,c6,c7,c8,c9,c10,gg,cp,w5,rfl,hb,r1,r2,r3,r4⟩;refine ⟨c0,c1,c2,c3,c4,c5,c6,c7,c8,c9,c10,gg,cp,w5,rfl,hb,r1,r2,r3,r4,ZH ?_⟩;have hT5:=TF.grown hTF r4.out.2.2.1;have hlo:=hTF.lo;have far:∀b o,b≠ob->(w5.setCell ⟨ob,4,none⟩ (.slice (some ⟨gg,0,none⟩) (0 + 1) cp)).cell? ⟨b,o,none⟩=w5.cell? ⟨b,o,none⟩:=fun b o h=> World.cell?_setCell_far _ _ _ _ (fun e=> h e.symm);obtain ⟨z0,z1,_,_⟩:=hT5.chgCells;obtain ⟨z2,z3,z4,z5,z6⟩:=zK (e1.keep hT5.kept hB0);have za:=(far (w.heap.size + 1) 4 (by omega)).symm.trans (show _=some (Value.slice (some ⟨b0,o0,none⟩) kids.length p2) by simp [World.cell?,hT5.arg]);exact ⟨r2,(far _ _ (by omega)).symm.trans z0,(far _ _ (by omega)).symm.trans z1,za,(far _ _ (by omega)).symm.trans z2,(far _ _ (by omega)).symm.trans z3,(far _ _ (by omega)).symm.trans z4,(far _ _ (by omega)).symm.trans z5,(far _ _ (by omega)).symm.trans z6⟩
      have HTD:=ZH hTF;have HBX:=ZH hbx;have HBD:Hid (Below Wd.heap.size Wd Wd.drew):=ZH (ZF _ _).drew;have HKS:=ZH hks;clear hTF hku hbx hinv hSD hobc hcl0 e1 f1 hc0 hfm hsm hks hkd;go_wp2;refine jg (fun W=> W.cell? ⟨ob,4,none⟩=some (.slice none 0 0)/\W.cell? ⟨w.heap.size,0,none⟩=some (.slice q0 x1 r0)/\W.cell? ⟨w.heap.size,1,none⟩=some (.slice q1 x2 r1)/\W.cell? ⟨w.heap.size + 1,4,none⟩=some (.slice (some ⟨b0,o0,none⟩) kids.length p2)/\W.cell? ⟨b0,o0,none⟩=some (.int .i64 g0)/\W.cell? ⟨b0,o0 + 1,none⟩=some (.string g1)/\W.cell? ⟨b0,o0 + 2,none⟩=some (.slice g2 g3 g4)/\W.cell? ⟨b0,o0 + 3,none⟩=some (.slice g5 g6 g7)/\W.cell? ⟨b0,o0 + 4,none⟩=some (.slice g8 g9 gA)) 15 (by kernel_rfl) ?_;refine Sunk.takeD 0 (some 104) (.pointer (some ⟨ob,4,none⟩)) rfl rfl (by kernel_rfl) (by kernel_rfl) (by kernel_rfl) (by kernel_rfl) (fun _ _ _ h=> h) (HSD.out _ HBD.out) (by rfl) (by rintro W ⟨e0,e1,e2,e3,e4,e5,e6,e7,e8⟩;go_simp) ?_
      (try simp only [ZS])
      refine Sunk.takeD 1 (some 105) (.slice none 0 0) rfl rfl (by kernel_rfl) (by kernel_rfl) (by kernel_rfl) (by kernel_rfl) (fun _ _ _ h=> h) (HSD.out _ HBD.out) (by rfl) (by rintro W ⟨e0,e1,e2,e3,e4,e5,e6,e7,e8⟩;go_simp) ?_
      (try simp only [ZS])
      refine Sunk.takeD 2 (some 106) (.pointer (some ⟨wb,0,none⟩)) rfl rfl (by kernel_rfl) (by kernel_rfl) (by kernel_rfl) (by kernel_rfl) (fun _ _ _ h=> h) (HSD.out _ HBD.out) (by rfl) (by rintro W ⟨e0,e1,e2,e3,e4,e5,e6,e7,e8⟩;go_simp) ?_
      (try simp only [ZS])
      refine Sunk.takeD 3 (some 107) (.agg #[.slice q0 x1 r0, .slice q1 x2 r1]) rfl rfl (by kernel_rfl) (by kernel_rfl) (by kernel_rfl) (by kernel_rfl) (fun _ _ _ h=> h) (HSD.out _ HBD.out) (by rfl) (by rintro W ⟨e0,e1,e2,e3,e4,e5,e6,e7,e8⟩;go_simp) ?_
      (try simp only [ZS])
      refine Sunk.takeD 4 (some 108) (l8) rfl rfl (by kernel_rfl) (by kernel_rfl) (by kernel_rfl) (by kernel_rfl) (fun _ _ _ h=> h) (HSD.out _ HBD.out) (by rfl) (by rintro W ⟨e0,e1,e2,e3,e4,e5,e6,e7,e8⟩;go_simp) ?_
      (try simp only [ZS])
      refine Sunk.takeD 5 (some 109) (.slice a9 nl.length c9) rfl rfl (by kernel_rfl) (by kernel_rfl) (by kernel_rfl) (by kernel_rfl) (fun _ _ _ h=> h) (HSD.out _ HBD.out) (by rfl) (by rintro W ⟨e0,e1,e2,e3,e4,e5,e6,e7,e8⟩;go_simp) ?_
      (try simp only [ZS])
      refine Sunk.takeD 7 (some 111) (.pointer (some ⟨w.heap.size + 1,4,none⟩)) rfl rfl (by kernel_rfl) (by kernel_rfl) (by kernel_rfl) (by kernel_rfl) (fun _ _ _ h=> h) (HSD.out _ HBD.out) (by rfl) (by rintro W ⟨e0,e1,e2,e3,e4,e5,e6,e7,e8⟩;go_simp) ?_
      (try simp only [ZS])
      refine Sunk.takeD 8 (some 112) (.slice (some ⟨b0,o0,none⟩) kids.length p2) rfl rfl (by kernel_rfl) (by kernel_rfl) (by kernel_rfl) (by kernel_rfl) (fun _ _ _ h=> h) (HSD.out _ HBD.out) (by rfl) (by rintro W ⟨e0,e1,e2,e3,e4,e5,e6,e7,e8⟩;go_simp) ?_
      (try simp only [ZS])
      refine Sunk.takeD 9 (some 113) (.pointer (some ⟨b0,o0,none⟩)) rfl rfl (by kernel_rfl) (by kernel_rfl) (by kernel_rfl) (by kernel_rfl) (fun _ _ _ h=> h) (HSD.out _ HBD.out) (by rfl) (by rintro W ⟨e0,e1,e2,e3,e4,e5,e6,e7,e8⟩;go_simp) ?_
      (try simp only [ZS])
      refine Sunk.takeD 10 (some 114) (.agg #[.int .i64 g0, .string g1, .slice g2 g3 g4, .slice g5 g6 g7, .slice g8 g9 gA]) rfl rfl (by kernel_rfl) (by kernel_rfl) (by kernel_rfl) (by kernel_rfl) (fun _ _ _ h=> h) (HSD.out _ HBD.out) (by rfl) (by rintro W ⟨e0,e1,e2,e3,e4,e5,e6,e7,e8⟩;go_simp) ?_
      (try simp only [ZS])
      refine Sunk.one 6 (by kernel_rfl) rfl (by rfl) (fun K hK=> ?_);go_simp;go_at_call 132;refine (H132.out _ HBD.out).mono ?_;rintro e w5 ⟨y0,y1,y2,y3,y4,y5,rfl,H5⟩;refine hK.out _ _ (fun _=> HSD.out w5 H5.out.1) ?_;clear hK K
      (try simp only [ZS])
      refine Sunk.one 11 (by kernel_rfl) rfl (by rfl) (fun K hK=> ?_);go_simp;go_at_call 81;refine (H81.out w5 y0 y1 y2 y3 y4 y5 H5.out.1 H5.out.2).mono ?_;rintro e w6 ⟨e0,e1,e2,e3,e4,e5,e6,e7,e8,e9,eA,gg,cp,w7,rfl,HB6,hr,hw1,hw2,HF7,HS7⟩;refine hK.out _ _ (fun _=> HSD.out w6 HB6.out) ?_;clear hK K
      (try simp only [ZS])
      refine Sunk.one 12 (by kernel_rfl) rfl (by rfl) (fun K hK=> ?_);go_simp;refine hK.out _ _ (fun _=> HSD.out _ (HB6.out.alloc HB6.out.size _)) ?_;clear hK K
      (try simp only [ZS])
      refine Sunk.one 13 (by kernel_rfl) rfl (by rfl) (fun K hK=> ?_);show Oper.wp _ ⟨some 117, .call { callee:= .builtin .append,args:=#[.tmp 105, .tmp 116],argTypes:=#[31,31] },31,_,_,none⟩ _ _ _ _;refine xu (.tmp 105) (.tmp 116) 31 31 rfl rfl rfl hr ?_;refine hK.out _ _ (fun _=> HS7.out) ?_;clear hK K
      (try simp only [ZS])
      refine Sunk.takeD 14 (some 118) (.pointer (some ⟨ob,4,none⟩)) rfl rfl (by kernel_rfl) (by kernel_rfl) (by kernel_rfl) (by kernel_rfl) (fun _ _ _ h=> h) HS7.out (by rfl) (by rintro W ⟨e0,e1,e2,e3,e4,e5,e6,e7,e8⟩;go_simp) ?_
      (try simp only [ZS])
      refine Sunk.one 15 (by kernel_rfl) rfl (by rfl) (fun K hK=> ?_);go_simp;refine hK.out _ _ (fun h=> absurd rfl h) ?_;clear hK K
      (try simp only [ZS])
      refine Sunk.done (by kernel_rfl) ?_;obtain ⟨wF,hwF⟩:∃W,W=w7.setCell ⟨ob,4,none⟩ (.slice (some ⟨gg,0,none⟩) 1 cp):=⟨_,rfl⟩;have hGF:=HF7.out;rw [<-hwF] at hGF;have HWF:=ZH hwF;have hTF:=TF.grown HTD.out hGF.2.2.1;have hbF:=hGF.2.1;have hre:wF.heap[w.heap.size + 1 + 1]?=some o130:=hTF.res;obtain ⟨zz0,zz1,zz2,zz3,zz4,zz5,zz6,zz7,zz8,zz9⟩:=jT hre;obtain ⟨vv0,vv1,vv2,vv3,vv4,-,-,-,-,-⟩:=jT hbF;have hlo:=hTF.lo;have hK:=zN.termsDone (l:= [kd]) hGF hobs;have hup:zE (ob + 1) Wd wF:=zE.of_grown hGF.2.2.1 (by omega)
      have hres:∀W,W=(((((wF.setCell ⟨w.heap.size + 1 + 1,0,none⟩ (.int .i64 form)).setCell ⟨w.heap.size + 1 + 1,1,none⟩ (.string text)).setCell ⟨w.heap.size + 1 + 1,2,none⟩ (.slice aA joins.length cA)).setCell ⟨w.heap.size + 1 + 1,3,none⟩ (.slice aD defs.length cD)).setCell ⟨w.heap.size + 1 + 1,4,none⟩ (.slice (some ⟨gg,0,none⟩) 1 cp))->
        zo wF.heap.size (blank w.heap.size W) [.int .i64 form, .string text, .slice aA joins.length cA, .slice aD defs.length cD, .slice (some ⟨gg,0,none⟩) 1 cp] (.mk form text joins defs kids)/\Below w.heap.size w W:=by
       intro W hW
       have hset:zE (ob + 1) wF W:=by
        rw [hW];exact ((((zE.set wF (by omega) 0 _).trans (zE.set _ (by omega) 1 _)).trans (zE.set _ (by omega) 2 _)).trans (zE.set _ (by omega) 3 _)).trans (zE.set _ (by omega) 4 _)
       have hsz':W.heap.size=wF.heap.size:=by rw [hW];simp [World.setCell]
       have e1:=zib HA.out ((HUD.out.trans hup).trans hset) (A':=w.heap.size) (by omega);have e2:=zai HD.out (hup.trans hset) (A':=w.heap.size) (by omega);have e3:=zcy hK hset (A':=w.heap.size) (by omega);rw [hsz'] at e1 e2 e3;refine ⟨⟨htz,_,_,_,rfl,e1,e2,?_⟩,by rw [hW];exact set5 hTF.below _ (by omega) _ _ _ _ _⟩;rw [HKS.out];exact e3
      have HRES:=ZH hres;clear hre hlo hK hup hres hTF hbF hGF hwF hr hw1 hw2 HS7;rw [<-HWF.out];go_wp2;simp [bodyPost,results,Tryz.results135,go_sem,zz0,zz1,zz2,zz3,zz4];exact HRES.out _ rfl
end Go.Proofs.YtjmlaeofjjhfmaaGreat
