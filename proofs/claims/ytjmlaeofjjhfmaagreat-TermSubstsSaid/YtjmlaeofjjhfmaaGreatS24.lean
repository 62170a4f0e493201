/- Lemmas. -/
import Derived.Test.YtjmlaeofjjhfmaaGreatS23
import Derived.Test.YtjmlaeofjjhfmaaGreatS19
import Derived.Test.YtjmlaeofjjhfmaaGreatS20
set_option linter.unusedVariables false
set_option linter.unusedSimpArgs false
set_option maxRecDepth 10000
set_option maxHeartbeats 16000000
namespace Go.Proofs.YtjmlaeofjjhfmaaGreat
section
open Go.RowKit Go.Shelf Go.Maps
theorem jA (w:World):
  Calls Tryz.prog 50 #[] w fun e w'=> ∃cs:List Value,e= .returned (.agg cs.toArray)/\ze w'.heap.size w' cs exT/\Below w.heap.size w w':=by
 obtain ⟨WA,hWA⟩:∃WA,WA=((((w.alloc (.cells #[.int .i64 0, .string ⟨#[]⟩, .slice none 0 0, .slice none 0 0, .slice none 0 0] 33)).alloc (.cells #[.string ⟨#[97]⟩] 9)).alloc (.cells #[.string ⟨#[120]⟩, .slice (some ⟨w.heap.size + 1,0,none⟩) 1 1, .string ⟨#[121]⟩, .slice none 0 0] 144)).alloc (.cells #[.string ⟨#[97]⟩, .string ⟨#[98]⟩] 9)):=⟨_,rfl⟩
 have A0:WA.heap[w.heap.size]?=some (.cells #[.int .i64 0, .string ⟨#[]⟩, .slice none 0 0, .slice none 0 0, .slice none 0 0] 33):=by
  rw [hWA,ZO _ _ _ (by simp <;> omega),ZO _ _ _ (by simp <;> omega),ZO _ _ _ (by simp)];exact ZN w _
 have A1:WA.heap[w.heap.size + 1]?=some (.cells #[.string ⟨#[97]⟩] 9):=by
  rw [hWA,ZO _ _ _ (by simp <;> omega),ZO _ _ _ (by simp)];exact j2 _ _ _ (by simp)
 have A2:WA.heap[w.heap.size + 1 + 1]?=some (.cells #[.string ⟨#[120]⟩, .slice (some ⟨w.heap.size + 1,0,none⟩) 1 1, .string ⟨#[121]⟩, .slice none 0 0] 144):=by
  rw [hWA,ZO _ _ _ (by simp)];exact j2 _ _ _ (by simp)
 have A3:WA.heap[w.heap.size + 1 + 1 + 1]?=some (.cells #[.string ⟨#[97]⟩, .string ⟨#[98]⟩] 9):=by
  rw [hWA];exact j2 _ _ _ (by simp)
 have bA0:Below w.heap.size w WA:=by rw [hWA];exact (((ZQ w _).alloc (by simp) _).alloc (by simp <;> omega) _).alloc (by simp <;> omega) _
 have zA:WA.heap.size=w.heap.size + 1 + 1 + 1 + 1:=by rw [hWA];simp
 have hsA:zx WA.heap.size WA (.slice (some ⟨w.heap.size + 1 + 1 + 1,0,none⟩) 2 2) [bA,bB]:=by
  refine ⟨_,_,rfl,by decide,by decide,(by simp), .inr ⟨_,0,rfl,by omega,fun j hj=> ?_⟩⟩
  match j,hj with
  | 0,_=> simp [World.cell?,A3,bA]
  | 1,_=> simp [World.cell?,A3,bB]
 have hsend:=zhk ⟨#[122]⟩ _ [bA,bB] WA (by decide) hsA (by simp);have HWA:=ZH hWA;clear hsA;go_enter Tryz.func50,Tryz.ntmps50;go_wp2_with fail;rw [<-HWA.out];clear hWA;refine hsend.mono ?_;clear hsend;rintro e w3 ⟨r,rfl,ho3,hb3⟩
 have hr:∃a' cp,r= .slice a' 2 cp:=by
  obtain ⟨_,⟨rfl,h0⟩ | ⟨g,cp,cur,hvf,_⟩⟩:=ho3
  ·simp at h0
  ·exact ⟨_,_,hvf⟩
 obtain ⟨a',cp,rfl⟩:=hr
 obtain ⟨OC,hOC⟩:∃OC:List Obj,OC= [.cells #[.int .i64 2, .string ⟨#[122]⟩, .slice a' 2 cp, .slice none 0 0, .slice none 0 0] 33,
  .cells #[.int .i64 1, .string ⟨#[]⟩, .slice (some ⟨w.heap.size + 1 + 1,0,none⟩) 2 2, .slice none 0 0, .slice (some ⟨w3.heap.size,0,none⟩) 1 1] 130,
  .cells #[.int .i64 1, .int .i64 1, .string ⟨#[]⟩, .slice none 0 0] 36,
  .cells #[.int .i64 2, .string ⟨#[120]⟩, .slice (some ⟨w3.heap.size + 1 + 1,0,none⟩) 1 1, .slice none 0 0, .slice none 0 0] 33,
  .cells #[.int .i64 2, .string ⟨#[120]⟩, .slice (some ⟨w3.heap.size + 1 + 1,0,none⟩) 1 1, .slice none 0 0, .slice none 0 0] 33,
  .cells #[.int .i64 6, .string ⟨#[113]⟩, .slice none 0 0, .slice none 0 0, .slice (some ⟨w3.heap.size + 1 + 1 + 1 + 1,0,none⟩) 1 1] 33,
  .cells #[.int .i64 2, .string ⟨#[112]⟩, .slice none 0 0, .slice none 0 0, .slice (some ⟨w3.heap.size + 1 + 1 + 1 + 1 + 1,0,none⟩) 1 1] 130,
  .cells #[.int .i64 1, .string ⟨#[]⟩, .slice none 0 0, .slice none 0 0, .slice none 0 0] 33,
  .cells #[.int .i64 8, .string ⟨#[112]⟩, .slice none 0 0, .slice none 0 0, .slice (some ⟨w3.heap.size + 1 + 1 + 1 + 1 + 1 + 1 + 1,0,none⟩) 1 1] 33]:=⟨_,rfl⟩
 obtain ⟨WC,hWC⟩:∃WC,WC=OC.foldl World.alloc w3:=⟨_,rfl⟩;have hl9:OC.length=9:=by rw [hOC];rfl
 have zC:WC.heap.size=w3.heap.size + 9:=by rw [hWC,zdO,hl9]
 have bC:Below w3.heap.size w3 WC:=by rw [hWC];exact zbt _ _
 have hC:∀i (h:i < OC.length),WC.heap[w3.heap.size + i]?=some OC[i]:=fun i h=> by rw [hWC];exact zdN OC w3 i h
 have x0:=hC 0 (by omega);have x1:=hC 1 (by omega);have x2:=hC 2 (by omega);have x4:=hC 4 (by omega);have x5:=hC 5 (by omega);have x6:=hC 6 (by omega);have x7:=hC 7 (by omega);have x8:=hC 8 (by omega);simp only [hOC,List.getElem_cons_zero,List.getElem_cons_succ,Nat.add_zero] at x0 x1 x2 x4 x5 x6 x7 x8;have HWC:=ZH hWC;have HOC:=ZH hOC;clear hWC hC hl9
 have cw:∀W,Below WC.heap.size WC W->W.cell? ⟨w3.heap.size + 1 + 1 + 1 + 1 + 1 + 1 + 1 + 1,0,none⟩=some (.int .i64 8)/\W.cell? ⟨w3.heap.size + 1 + 1 + 1 + 1 + 1 + 1 + 1 + 1,1,none⟩=some (.string ⟨#[112]⟩)/\W.cell? ⟨w3.heap.size + 1 + 1 + 1 + 1 + 1 + 1 + 1 + 1,2,none⟩=some (.slice none 0 0)/\
   W.cell? ⟨w3.heap.size + 1 + 1 + 1 + 1 + 1 + 1 + 1 + 1,3,none⟩=some (.slice none 0 0)/\W.cell? ⟨w3.heap.size + 1 + 1 + 1 + 1 + 1 + 1 + 1 + 1,4,none⟩=some (.slice (some ⟨w3.heap.size + 1 + 1 + 1 + 1 + 1 + 1 + 1,0,none⟩) 1 1):=fun W hW=> by
  have:=(show W.heap[w3.heap.size + 1 + 1 + 1 + 1 + 1 + 1 + 1 + 1]?=_ from (hW.block (w3.heap.size + 8) (by omega)).trans x8);simp [World.cell?,this]
 have hy:∀W,Below WC.heap.size WC W->Calls Tryz.prog 109 #[.string ⟨#[121]⟩, .slice none 0 0] W fun e w'=> ∃a2 c2,e= .returned (.agg #[.int .i64 2, .string ⟨#[121]⟩, .slice a2 0 c2, .slice none 0 0, .slice none 0 0])/\
   Below WC.heap.size WC w'/\Below W.heap.size W w'/\(w'.cell? ⟨w3.heap.size + 1 + 1 + 1 + 1 + 1 + 1 + 1 + 1,0,none⟩=some (.int .i64 8)/\w'.cell? ⟨w3.heap.size + 1 + 1 + 1 + 1 + 1 + 1 + 1 + 1,1,none⟩=some (.string ⟨#[112]⟩)/\w'.cell? ⟨w3.heap.size + 1 + 1 + 1 + 1 + 1 + 1 + 1 + 1,2,none⟩=some (.slice none 0 0)/\w'.cell? ⟨w3.heap.size + 1 + 1 + 1 + 1 + 1 + 1 + 1 + 1,3,none⟩=some (.slice none 0 0)/\w'.cell? ⟨w3.heap.size + 1 + 1 + 1 + 1 + 1 + 1 + 1 + 1,4,none⟩=some (.slice (some ⟨w3.heap.size + 1 + 1 + 1 + 1 + 1 + 1 + 1,0,none⟩) 1 1)):=fun W hW=> by
  refine (zhk ⟨#[121]⟩ (.slice none 0 0) [] W (by decide) ⟨none,0,rfl,by simp,by simp,fun _=> rfl, .inl rfl⟩ (by simp)).mono fun e w' ⟨r,h1,h2,h3⟩=> ?_;have h4:Below WC.heap.size WC w':=hW.trans (h3.mono hW.size)
  have h5:∃a2 c2,r= .slice a2 0 c2:=by
   obtain ⟨_,⟨h6,_⟩ | ⟨g,cp,cur,hvf,_⟩⟩:=h2
   ·exact ⟨none,0,h6⟩
   ·exact ⟨_,_,hvf⟩
  obtain ⟨a2,c2,rfl⟩:=h5;exact ⟨a2,c2,h1,h4,h3,cw _ h4⟩
 have hy1:=hy WC.drew (ZF _ _).drew;have hy2:=hy (WC.alloc (.cells #[.int .i64 0, .string ⟨#[]⟩, .slice none 0 0, .slice none 0 0, .slice none 0 0] 33)).drew ((ZF _ _).alloc (ZL _) _).drew;clear hy;obtain ⟨d0,d1,d2,d3,d4⟩:=cw WC.drew (ZF _ _).drew;obtain ⟨d0',d1',d2',d3',d4'⟩:=cw (WC.alloc (.cells #[.int .i64 0, .string ⟨#[]⟩, .slice none 0 0, .slice none 0 0, .slice none 0 0] 33)).drew ((ZF _ _).alloc (ZL _) _).drew
 have tail:∀(W5:World) (bb bk:Nat) (a2:Option Addr) (c2:Nat),Below WC.heap.size WC W5->W5.heap[bb]?=some (.cells #[.int .i64 3, .string ⟨#[]⟩, .slice none 0 0, .slice none 0 0, .slice (some ⟨bk,0,none⟩) 2 2] 33)->W5.heap[bk]?=some (.cells #[.int .i64 2, .string ⟨#[121]⟩, .slice a2 0 c2, .slice none 0 0, .slice none 0 0, .int .i64 8, .string ⟨#[112]⟩, .slice none 0 0, .slice none 0 0, .slice (some ⟨w3.heap.size + 1 + 1 + 1 + 1 + 1 + 1 + 1,0,none⟩) 1 1] 33)->
   (W5.cell? ⟨w3.heap.size + 1,0,none⟩=some (.int .i64 1)/\W5.cell? ⟨w3.heap.size + 1,1,none⟩=some (.string ⟨#[]⟩)/\W5.cell? ⟨w3.heap.size + 1,2,none⟩=some (.slice (some ⟨w.heap.size + 1 + 1,0,none⟩) 2 2)/\W5.cell? ⟨w3.heap.size + 1,3,none⟩=some (.slice none 0 0)/\W5.cell? ⟨w3.heap.size + 1,4,none⟩=some (.slice (some ⟨w3.heap.size,0,none⟩) 1 1))/\
   (W5.cell? ⟨w3.heap.size + 1 + 1 + 1 + 1 + 1 + 1,0,none⟩=some (.int .i64 2)/\W5.cell? ⟨w3.heap.size + 1 + 1 + 1 + 1 + 1 + 1,1,none⟩=some (.string ⟨#[112]⟩)/\W5.cell? ⟨w3.heap.size + 1 + 1 + 1 + 1 + 1 + 1,2,none⟩=some (.slice none 0 0)/\W5.cell? ⟨w3.heap.size + 1 + 1 + 1 + 1 + 1 + 1,3,none⟩=some (.slice none 0 0)/\W5.cell? ⟨w3.heap.size + 1 + 1 + 1 + 1 + 1 + 1,4,none⟩=some (.slice (some ⟨w3.heap.size + 1 + 1 + 1 + 1 + 1,0,none⟩) 1 1))/\
   (∀X,(W5.alloc X).cell? ⟨bb,0,none⟩=some (.int .i64 3)/\(W5.alloc X).cell? ⟨bb,1,none⟩=some (.string ⟨#[]⟩)/\(W5.alloc X).cell? ⟨bb,2,none⟩=some (.slice none 0 0)/\(W5.alloc X).cell? ⟨bb,3,none⟩=some (.slice none 0 0)/\(W5.alloc X).cell? ⟨bb,4,none⟩=some (.slice (some ⟨bk,0,none⟩) 2 2))/\
   (∀X Z,((W5.alloc X).alloc Z).heap[w.heap.size]?=some (.cells #[.int .i64 0, .string ⟨#[]⟩, .slice none 0 0, .slice none 0 0, .slice none 0 0] 33))/\
   (∀WF,WF=((((((W5.alloc (.cells #[.int .i64 1, .string ⟨#[]⟩, .slice (some ⟨w.heap.size + 1 + 1,0,none⟩) 2 2, .slice none 0 0, .slice (some ⟨w3.heap.size,0,none⟩) 1 1, .int .i64 2, .string ⟨#[112]⟩, .slice none 0 0, .slice none 0 0, .slice (some ⟨w3.heap.size + 1 + 1 + 1 + 1 + 1,0,none⟩) 1 1] 130)).alloc (.cells #[.int .i64 3, .string ⟨#[]⟩, .slice none 0 0, .slice none 0 0, .slice (some ⟨bk,0,none⟩) 2 2] 33)).setCell ⟨w.heap.size,0,none⟩ (.int .i64 4)).setCell ⟨w.heap.size,1,none⟩ (.string ⟨#[]⟩)).setCell ⟨w.heap.size,2,none⟩ (.slice none 0 0)).setCell ⟨w.heap.size,3,none⟩ (.slice (some ⟨W5.heap.size,0,none⟩) 2 2)).setCell ⟨w.heap.size,4,none⟩ (.slice (some ⟨W5.heap.size + 1,0,none⟩) 1 1)->ze WF.heap.size WF [.int .i64 4, .string ⟨#[]⟩, .slice none 0 0, .slice (some ⟨W5.heap.size,0,none⟩) 2 2, .slice (some ⟨W5.heap.size + 1,0,none⟩) 1 1] exT/\Below w.heap.size w WF):=by
  intro W5 bb bk a2 c2 hB hY hC;have s1:=(hB.block (w3.heap.size + 1) (by omega)).trans x1;have s6:=(hB.block (w3.heap.size + 6) (by omega)).trans x6;have sb:∀X:Obj,(W5.alloc X).heap[bb]?=some (.cells #[.int .i64 3, .string ⟨#[]⟩, .slice none 0 0, .slice none 0 0, .slice (some ⟨bk,0,none⟩) 2 2] 33):=fun X=> (ZO _ _ _ (yF hY)).trans hY;have z1:=bC.size;have z2:=hb3.size
  have s0:W5.heap[w.heap.size]?=some (.cells #[.int .i64 0, .string ⟨#[]⟩, .slice none 0 0, .slice none 0 0, .slice none 0 0] 33):=
   (hB.block _ (by omega)).trans ((bC.block _ (by omega)).trans ((hb3.block _ (by omega)).trans A0))
  refine ⟨⟨qy s1 _ _ rfl,qy s1 _ _ rfl,qy s1 _ _ rfl,qy s1 _ _ rfl,qy s1 _ _ rfl⟩,⟨qy s6 _ _ rfl,qy s6 _ _ rfl,qy s6 _ _ rfl,qy s6 _ _ rfl,qy s6 _ _ rfl⟩,
   fun X=> ⟨qy (sb X) _ _ rfl,qy (sb X) _ _ rfl,qy (sb X) _ _ rfl,qy (sb X) _ _ rfl,qy (sb X) _ _ rfl⟩,
   fun X Z=> (ZO _ _ _ (by have:=yF s0;simp;omega)).trans ((ZO _ _ _ (yF s0)).trans s0),?_⟩
  intro WF hWF;obtain ⟨W7,hW7⟩:∃W7,W7=((W5.alloc (.cells #[.int .i64 1, .string ⟨#[]⟩, .slice (some ⟨w.heap.size + 1 + 1,0,none⟩) 2 2, .slice none 0 0, .slice (some ⟨w3.heap.size,0,none⟩) 1 1, .int .i64 2, .string ⟨#[112]⟩, .slice none 0 0, .slice none 0 0, .slice (some ⟨w3.heap.size + 1 + 1 + 1 + 1 + 1,0,none⟩) 1 1] 130)).alloc (.cells #[.int .i64 3, .string ⟨#[]⟩, .slice none 0 0, .slice none 0 0, .slice (some ⟨bk,0,none⟩) 2 2] 33)):=⟨_,rfl⟩;rw [<-hW7] at hWF;have z7:W7.heap.size=W5.heap.size + 2:=by rw [hW7];simp
  have b7:Below W5.heap.size W5 W7:=by rw [hW7];exact ((ZF _ _).alloc (ZL _) _).alloc (by simp) _
  have hc15:W7.heap[W5.heap.size]?=some (.cells #[.int .i64 1, .string ⟨#[]⟩, .slice (some ⟨w.heap.size + 1 + 1,0,none⟩) 2 2, .slice none 0 0, .slice (some ⟨w3.heap.size,0,none⟩) 1 1, .int .i64 2, .string ⟨#[112]⟩, .slice none 0 0, .slice none 0 0, .slice (some ⟨w3.heap.size + 1 + 1 + 1 + 1 + 1,0,none⟩) 1 1] 130):=by rw [hW7,ZO _ _ _ (by simp)];exact ZN W5 _
  have hc16:W7.heap[W5.heap.size + 1]?=some (.cells #[.int .i64 3, .string ⟨#[]⟩, .slice none 0 0, .slice none 0 0, .slice (some ⟨bk,0,none⟩) 2 2] 33):=by rw [hW7];exact j2 _ _ _ (by simp)
  have g7:∀b o,b≠w.heap.size->W7.heap[b]?=some o->WF.heap[b]?=some o:=fun b o hb ho=> by
   rw [hWF,ZC _ _ _ _ hb,ZC _ _ _ _ hb,ZC _ _ _ _ hb,ZC _ _ _ _ hb,ZC _ _ _ _ hb];exact ho
  have z5:=hB.size;have g5:∀b o,b≠w.heap.size->W5.heap[b]?=some o->WF.heap[b]?=some o:=fun b o hb ho=> g7 b o hb ((b7.block b (yF ho)).trans ho);have gC:∀b o,b≠w.heap.size->WC.heap[b]?=some o->WF.heap[b]?=some o:=fun b o hb ho=> g5 b o hb ((hB.block b (yF ho)).trans ho);have gA:∀b o,b≠w.heap.size->WA.heap[b]?=some o->WF.heap[b]?=some o:=fun b o hb ho=> gC b o hb ((bC.block b (by have:=yF ho;omega)).trans ((hb3.block b (yF ho)).trans ho))
  have hWFb:Below w.heap.size w WF:=by
   have q7:Below w.heap.size w W7:=(((bA0.trans (hb3.mono bA0.size)).trans (bC.mono (by omega))).trans (hB.mono (by omega))).trans (b7.mono (by omega));rw [hWF];exact ((((q7.setCell (ZL _) _).setCell (ZL _) _).setCell (ZL _) _).setCell (ZL _) _).setCell (ZL _) _
  have ho7:W7.ownsRow WA.heap.size 36 4 (.slice a' 2 cp) [bA,bB].length (nmCs [bA,bB]):=
   zt (zt (zt ho3 (zj bC) (fun _ _ e=> by cases e)) (zj hB) (fun _ _ e=> by cases e)) (zj b7) (fun _ _ e=> by cases e)
  have hset:∀(W:World) (o:Nat) (x:Value),W.ownsRow WA.heap.size 36 4 (.slice a' 2 cp) [bA,bB].length (nmCs [bA,bB])->(W.setCell ⟨w.heap.size,o,none⟩ x).ownsRow WA.heap.size 36 4 (.slice a' 2 cp) [bA,bB].length (nmCs [bA,bB]):=fun W o x h=>
   zt h (zH W ⟨w.heap.size,o,none⟩ x) (fun g hg e=> by
    have h9:=(h.lt g hg).1;have h8:=ZJ e;simp only at h8;omega)
  have hoF:WF.ownsRow WA.heap.size 36 4 (.slice a' 2 cp) [bA,bB].length (nmCs [bA,bB]):=by
   rw [hWF];exact hset _ _ _ (hset _ _ _ (hset _ _ _ (hset _ _ _ (hset _ _ _ ho7))))
  refine ⟨zjw (n:=w.heap.size) (m:=w3.heap.size) (bk:=bk) (gA _ _ (by omega) A1) (gA _ _ (by omega) A2) (gC _ _ (by omega) x0) (gC _ _ (by omega) x2) (gC _ _ (by omega) x4) (gC _ _ (by omega) x5) (gC _ _ (by omega) x7) hoF
   (g7 _ _ (by omega) hc15) (g5 _ _ ?_ hC) (g7 _ _ (by omega) hc16),hWFb⟩
  intro e;rw [e,s0] at hC;simp at hC
 have HT:=ZH tail;clear tail;have HCW:=ZH cw;have ZC:=ZH zC;have ZA:=ZH zA;clear zC zA;clear cw;have e1:=HWC.out;rw [HOC.out] at e1;simp only [List.foldl_cons,List.foldl_nil] at e1;have HE1:=ZH e1;clear e1;go_wp2_with fail;rw [<-HE1.out]
 go_region_with (first
  | (go_at_call 109;with_reducible refine hy1.mono ?_;rintro e w4 ⟨a2,c2,rfl,hb4,hb5,g0,g1,g2,g3,g4⟩;obtain ⟨g0',g1',g2',g3',g4'⟩:=HCW.out (w4.alloc (.cells #[.int .i64 0, .string ⟨#[]⟩, .slice none 0 0, .slice none 0 0, .slice none 0 0] 33)) (hb4.alloc hb4.size _)
     obtain ⟨q0,q1,q2,q3,q4,qf⟩:=zcl ((w4.alloc (.cells #[.int .i64 0, .string ⟨#[]⟩, .slice none 0 0, .slice none 0 0, .slice none 0 0] 33)).alloc (.cells #[.int .i64 2, .string ⟨#[121]⟩, .slice a2 0 c2, .slice none 0 0, .slice none 0 0, .int .i64 8, .string ⟨#[112]⟩, .slice none 0 0, .slice none 0 0, .slice (some ⟨w3.heap.size + 1 + 1 + 1 + 1 + 1 + 1 + 1,0,none⟩) 1 1] 33)) w4.heap.size ((ZO _ _ _ (by simp)).trans (ZN w4 _)))
  | (go_at_call 109;with_reducible refine hy2.mono ?_;rintro e w4 ⟨a2,c2,rfl,hb4,hb5,g0,g1,g2,g3,g4⟩
     have hbk:=(hb5.block WC.heap.size (by simp)).trans (j2 WC (.cells #[.int .i64 0, .string ⟨#[]⟩, .slice none 0 0, .slice none 0 0, .slice none 0 0] 33) WC.heap.size rfl);have hlt:=(ZG hbk).1;obtain ⟨q0,q1,q2,q3,q4,qf⟩:=zcl (w4.alloc (.cells #[.int .i64 2, .string ⟨#[121]⟩, .slice a2 0 c2, .slice none 0 0, .slice none 0 0, .int .i64 8, .string ⟨#[112]⟩, .slice none 0 0, .slice none 0 0, .slice (some ⟨w3.heap.size + 1 + 1 + 1 + 1 + 1 + 1 + 1,0,none⟩) 1 1] 33)) WC.heap.size ((ZO _ _ _ hlt).trans hbk);obtain ⟨p0,p1,p2,p3,p4,pf⟩:=zcl w4 WC.heap.size hbk;have hne1:¬WC.heap.size=w4.heap.size:=Nat.ne_of_lt hlt;have hne2:¬w4.heap.size=WC.heap.size:=fun e=> hne1 e.symm;have HBK:=ZH hbk;clear hbk))
 all_goals
  have hz4:=hb4.size;have T1:=HT.out ((w4.alloc (.cells #[.int .i64 2, .string ⟨#[121]⟩, .slice a2 0 c2, .slice none 0 0, .slice none 0 0, .int .i64 8, .string ⟨#[112]⟩, .slice none 0 0, .slice none 0 0, .slice (some ⟨w3.heap.size + 1 + 1 + 1 + 1 + 1 + 1 + 1,0,none⟩) 1 1] 33)).alloc (.cells #[.int .i64 3, .string ⟨#[]⟩, .slice none 0 0, .slice none 0 0, .slice (some ⟨w4.heap.size,0,none⟩) 2 2] 33)) (w4.heap.size + 1) w4.heap.size a2 c2 ((hb4.alloc hz4 _).alloc (by simp;omega) _) (j2 _ _ _ (by simp)) ((ZO _ _ _ (by simp)).trans (ZN w4 _));have T2:=HT.out ((w4.alloc (.cells #[.int .i64 3, .string ⟨#[]⟩, .slice none 0 0, .slice none 0 0, .slice (some ⟨w4.heap.size + 1,0,none⟩) 2 2] 33)).alloc (.cells #[.int .i64 2, .string ⟨#[121]⟩, .slice a2 0 c2, .slice none 0 0, .slice none 0 0, .int .i64 8, .string ⟨#[112]⟩, .slice none 0 0, .slice none 0 0, .slice (some ⟨w3.heap.size + 1 + 1 + 1 + 1 + 1 + 1 + 1,0,none⟩) 1 1] 33)) w4.heap.size (w4.heap.size + 1) a2 c2 ((hb4.alloc hz4 _).alloc (by simp;omega) _) ((ZO _ _ _ (by simp)).trans (ZN w4 _)) (j2 _ _ _ (by simp))
  have T3:∀(_:w4.heap[WC.heap.size]?=some (.cells #[.int .i64 0, .string ⟨#[]⟩, .slice none 0 0, .slice none 0 0, .slice none 0 0] 33)),_:=fun hbk=> HT.out ((((((w4.setCell ⟨WC.heap.size,0,none⟩ (.int .i64 3)).setCell ⟨WC.heap.size,1,none⟩ (.string ⟨#[]⟩)).setCell ⟨WC.heap.size,2,none⟩ (.slice none 0 0)).setCell ⟨WC.heap.size,3,none⟩ (.slice none 0 0)).setCell ⟨WC.heap.size,4,none⟩ (.slice (some ⟨w4.heap.size,0,none⟩) 2 2)).alloc (.cells #[.int .i64 2, .string ⟨#[121]⟩, .slice a2 0 c2, .slice none 0 0, .slice none 0 0, .int .i64 8, .string ⟨#[112]⟩, .slice none 0 0, .slice none 0 0, .slice (some ⟨w3.heap.size + 1 + 1 + 1 + 1 + 1 + 1 + 1,0,none⟩) 1 1] 33)) WC.heap.size w4.heap.size a2 c2
   ((((((hb4.setCell (ZL _) _).setCell (ZL _) _).setCell (ZL _) _).setCell (ZL _) _).setCell (ZL _) _).alloc (by simp [World.setCell];omega) _)
   ((ZO _ _ _ (by have:=yF hbk;simp [World.setCell];omega)).trans (by simp [World.setCell,Array.getElem?_modify,hbk])) (j2 _ _ _ (by simp [World.setCell]))
  first
   | (revert HBK;intro HBK
      obtain ⟨⟨t0,t1,t2,t3,t4⟩,⟨u0,u1,u2,u3,u4⟩,hbb,hw0,hfin⟩:=T3 HBK.out;have hzf:=fun X Z=> zcl _ _ (hw0 X Z);have HF:=ZH hfin;clear T1 T2 T3 hw0 hfin;obtain ⟨W5,hW5⟩:∃W5,W5=((((((w4.setCell ⟨WC.heap.size,0,none⟩ (.int .i64 3)).setCell ⟨WC.heap.size,1,none⟩ (.string ⟨#[]⟩)).setCell ⟨WC.heap.size,2,none⟩ (.slice none 0 0)).setCell ⟨WC.heap.size,3,none⟩ (.slice none 0 0)).setCell ⟨WC.heap.size,4,none⟩ (.slice (some ⟨w4.heap.size,0,none⟩) 2 2)).alloc (.cells #[.int .i64 2, .string ⟨#[121]⟩, .slice a2 0 c2, .slice none 0 0, .slice none 0 0, .int .i64 8, .string ⟨#[112]⟩, .slice none 0 0, .slice none 0 0, .slice (some ⟨w3.heap.size + 1 + 1 + 1 + 1 + 1 + 1 + 1,0,none⟩) 1 1] 33)):=⟨_,rfl⟩;rw [<-hW5] at t0 t1 t2 t3 t4 u0 u1 u2 u3 u4 hbb hzf HF;rw [<-hW5];have H5:=ZH hW5;clear hW5;go_wp2;refine bodyPost_ret (v:= .agg #[.int .i64 4, .string ⟨#[]⟩, .slice none 0 0, .slice (some ⟨W5.heap.size,0,none⟩) 2 2, .slice (some ⟨W5.heap.size + 1,0,none⟩) 1 1]) (by simp [results,Tryz.results50,go_sem,hzf]) rfl ?_;exact ⟨_,rfl,(HF.out _ rfl).1,(HF.out _ rfl).2⟩)
   | (obtain ⟨⟨t0,t1,t2,t3,t4⟩,⟨u0,u1,u2,u3,u4⟩,hbb,hw0,hfin⟩:=id T1
      have hzf:=fun X Z=> zcl _ _ (hw0 X Z);have HF:=ZH hfin;clear T1 T2 T3 hw0 hfin;obtain ⟨W5,hW5⟩:∃W5,W5=((w4.alloc (.cells #[.int .i64 2, .string ⟨#[121]⟩, .slice a2 0 c2, .slice none 0 0, .slice none 0 0, .int .i64 8, .string ⟨#[112]⟩, .slice none 0 0, .slice none 0 0, .slice (some ⟨w3.heap.size + 1 + 1 + 1 + 1 + 1 + 1 + 1,0,none⟩) 1 1] 33)).alloc (.cells #[.int .i64 3, .string ⟨#[]⟩, .slice none 0 0, .slice none 0 0, .slice (some ⟨w4.heap.size,0,none⟩) 2 2] 33)):=⟨_,rfl⟩;rw [<-hW5] at t0 t1 t2 t3 t4 u0 u1 u2 u3 u4 hbb hzf HF;rw [<-hW5];have H5:=ZH hW5;clear hW5;go_wp2;refine bodyPost_ret (v:= .agg #[.int .i64 4, .string ⟨#[]⟩, .slice none 0 0, .slice (some ⟨W5.heap.size,0,none⟩) 2 2, .slice (some ⟨W5.heap.size + 1,0,none⟩) 1 1]) (by simp [results,Tryz.results50,go_sem,hzf]) rfl ?_;exact ⟨_,rfl,(HF.out _ rfl).1,(HF.out _ rfl).2⟩)
   | (obtain ⟨⟨t0,t1,t2,t3,t4⟩,⟨u0,u1,u2,u3,u4⟩,hbb,hw0,hfin⟩:=id T2
      have hzf:=fun X Z=> zcl _ _ (hw0 X Z);have HF:=ZH hfin;clear T1 T2 T3 hw0 hfin;obtain ⟨W5,hW5⟩:∃W5,W5=((w4.alloc (.cells #[.int .i64 3, .string ⟨#[]⟩, .slice none 0 0, .slice none 0 0, .slice (some ⟨w4.heap.size + 1,0,none⟩) 2 2] 33)).alloc (.cells #[.int .i64 2, .string ⟨#[121]⟩, .slice a2 0 c2, .slice none 0 0, .slice none 0 0, .int .i64 8, .string ⟨#[112]⟩, .slice none 0 0, .slice none 0 0, .slice (some ⟨w3.heap.size + 1 + 1 + 1 + 1 + 1 + 1 + 1,0,none⟩) 1 1] 33)):=⟨_,rfl⟩;rw [<-hW5] at t0 t1 t2 t3 t4 u0 u1 u2 u3 u4 hbb hzf HF;rw [<-hW5];have H5:=ZH hW5;clear hW5;go_wp2;refine bodyPost_ret (v:= .agg #[.int .i64 4, .string ⟨#[]⟩, .slice none 0 0, .slice (some ⟨W5.heap.size,0,none⟩) 2 2, .slice (some ⟨W5.heap.size + 1,0,none⟩) 1 1]) (by simp [results,Tryz.results50,go_sem,hzf]) rfl ?_;exact ⟨_,rfl,(HF.out _ rfl).1,(HF.out _ rfl).2⟩)
theorem zmK:(Part.proc exT).size=13:=by rfl
theorem zj5:(zw 1 (.proc exT)).all (fun q=> q.1.shaped && decide (q.2<=12))=true:=by kernel_rfl
theorem zb9:∀(s:Nat) (p:Part) (k:List UInt8),qE s p k=true->k∈(zw 0 p).map (fun q=> zb (yA q.1))
 | 0,_,_,h=> by simp [qE] at h
 | s + 1,p,k,h=> by
  rw [qE,Bool.or_eq_true] at h;rw [zv,List.map_cons];rcases h with h | h
  ·rw [Bool.and_eq_true] at h
   obtain ⟨q,hq,hf⟩:=List.any_eq_true.1 h.1;have h2:=zb9 s q k hf;refine List.mem_cons_of_mem _ ?_;obtain ⟨y,hy,he⟩:=List.mem_map.1 h2;have h3:y.1∈(zw 1 q).map (·.1):=by rw [qJ 1 0];exact List.mem_map.2 ⟨y,hy,rfl⟩
   obtain ⟨z,hz,hzy⟩:=List.mem_map.1 h3;exact List.mem_map.2 ⟨z,jh hq hz,by rw [hzy];exact he⟩
  ·rw [Bool.and_eq_true] at h
   rw [show k=zb (yA p) by simpa using h.2];exact List.mem_cons_self ..
theorem zl8:zdp (.proc exT) [[98], [113], [122]]:=by
 refine ⟨by decide,fun k=> ?_⟩;constructor
 ·intro h
  simp only [List.mem_cons,List.not_mem_nil,or_false] at h;rcases h with rfl | rfl | rfl <;> kernel_rfl
 ·intro h
  have h1:=zb9 60 _ _ h;have e:(zw 0 (.proc exT)).map (fun q=> zb (yA q.1))= [[], [], [122], [97], [98], [], [113], [120], [], [], [121], [112], []]:=by kernel_rfl
  rw [e] at h1;simp only [List.mem_cons,List.not_mem_nil,or_false] at h1;have f0:qE 60 (.proc exT) []=false:=by kernel_rfl
  have f1:qE 60 (.proc exT) [97]=false:=by kernel_rfl
  have f2:qE 60 (.proc exT) [120]=false:=by kernel_rfl
  have f3:qE 60 (.proc exT) [121]=false:=by kernel_rfl
  have f4:qE 60 (.proc exT) [112]=false:=by kernel_rfl
  rcases h1 with rfl | rfl | rfl | rfl | rfl | rfl | rfl | rfl | rfl | rfl | rfl | rfl | rfl <;> simp_all
def defB:Part->Bool
 | .proc (.mk op _ _ _ _)=> op==4
 | _=> false
theorem zaY {p:Part} (h:defB p=false):zeq p:=by
 cases p with
 | proc t=> obtain ⟨o,t,a,d,k⟩:=t;intro ho;subst ho;simp [defB] at h
 | exp e=> trivial
 | def_ c=> trivial
theorem zmN:zaQ [xO,xR]:=by
 refine ⟨fun k=> if k= [121] then (0,0) else (0,1),by decide,by decide,?_,?_,by decide⟩
 ·intro i h c hc j hj
  have hl:(zm [xO,xR]).length=2:=by rfl
  match i,h with
  | 0,_=>
   have e:(zm [xO,xR])[0]= [xO,xR]:=rfl;rw [e] at hc;simp only [List.mem_cons,List.not_mem_nil,or_false] at hc;rcases hc with rfl | rfl
   ·have e2:zg.joins xO= [⟨bX, [bA]⟩,⟨bY, []⟩]:=rfl
    rw [e2] at hj;simp only [List.mem_cons,List.not_mem_nil,or_false] at hj;rcases hj with rfl | rfl <;> rfl
   ·have e2:zg.joins xR= []:=rfl
    rw [e2] at hj;simp at hj
  | 1,h=>
   have e:(zm [xO,xR])[1]= []:=rfl;rw [e] at hc;simp at hc
  | i + 2,h=> omega
 ·intro p hp
  have e:zi [xO,xR]= [bP]:=rfl;rw [e] at hp;simp only [List.mem_cons,List.not_mem_nil,or_false] at hp;subst hp;rfl
theorem xt:zT (.proc exT):=by
 refine ⟨by rw [zmK];omega,fun q hq=> ?_⟩;have h1:=List.all_eq_true.1 zj5 q hq;simp only [Bool.and_eq_true,decide_eq_true_eq] at h1;refine ⟨h1.1,h1.2,?_⟩;rw [zv] at hq;rcases List.mem_cons.1 hq with rfl | hq
 ·exact fun _=> zmN
 ·have ha:(zM 2 (Part.proc exT).parts).all (fun q=> !defB q.1)=true:=by kernel_rfl
  have h2:=List.all_eq_true.1 ha q hq;exact zaY (by simpa using h2)
def bC:ByteArray:=⟨#[99]⟩
def bD:ByteArray:=⟨#[100]⟩
def bEe:ByteArray:=⟨#[101]⟩
def jU:zg:= .mk 1 bE [⟨bC, [bA]⟩,⟨bY, []⟩] [] [zct bZ [bA,bX]]
def jX:zg:= .mk 2 bP [] [] [.mk 6 bQ [] [] [.mk 2 bC [.mk 1 1 bE []] [] []]]
def putT:Term:= .mk 4 bE [] [jU,jX] [jv]
def j1:zg:= .mk 1 bE [⟨bA, [bEe]⟩,⟨bC, []⟩] [] [zct bZ [bEe,bB]]
def jW:zg:= .mk 2 bD [] [] [.mk 6 bQ [] [] [.mk 2 bA [.mk 1 1 bE []] [] []]]
def canT:Term:= .mk 4 bE [] [j1,jW] [.mk 3 bE [] [] [zct bC [], .mk 8 bD [] [] [.mk 1 bE [] [] []]]]
theorem znq:(yl ⟨.putting bB (nmE bX), [jp]⟩ (xy exT bB (nmE bX)) exT).map (·.1)=some putT:=by kernel_rfl
theorem zl2:(yl ⟨.putting bQ (.mk 1 2 bE []), [jp]⟩ (xy exT bQ (.mk 1 2 bE [])) exT).isSome=false:=by kernel_rfl
theorem zm7:(yl ⟨.anew, [jp]⟩ (qE 60 (.proc exT)) exT).map (·.1)=some canT:=by kernel_rfl
theorem znn:(yl ⟨.outside, [jp]⟩ (fun _=> false) jv).map (·.1)=some jv:=by kernel_rfl
theorem zlr:(zG jv).length=2:=by kernel_rfl
theorem zkm:qb [jU,jX] ++ zi [jU,jX]= [bC,bY,bP]:=by kernel_rfl
theorem zj2:qb [j1,jW] ++ zi [j1,jW]= [bA,bC,bD]:=by kernel_rfl
theorem zhh:zaQ [jU,jX]:=by
 refine ⟨fun k=> if k= [121] then (0,0) else (0,1),by decide,by decide,?_,?_,by decide⟩
 ·intro i h c hc j hj
  have hl:(zm [jU,jX]).length=2:=by rfl
  match i,h with
  | 0,_=>
   have e:(zm [jU,jX])[0]= [jU,jX]:=rfl;rw [e] at hc;simp only [List.mem_cons,List.not_mem_nil,or_false] at hc;rcases hc with rfl | rfl
   ·have e2:zg.joins jU= [⟨bC, [bA]⟩,⟨bY, []⟩]:=rfl
    rw [e2] at hj;simp only [List.mem_cons,List.not_mem_nil,or_false] at hj;rcases hj with rfl | rfl <;> rfl
   ·have e2:zg.joins jX= []:=rfl
    rw [e2] at hj;simp at hj
  | 1,h=>
   have e:(zm [jU,jX])[1]= []:=rfl;rw [e] at hc;simp at hc
  | i + 2,h=> omega
 ·intro p hp
  have e:zi [jU,jX]= [bP]:=rfl;rw [e] at hp;simp only [List.mem_cons,List.not_mem_nil,or_false] at hp;subst hp;rfl
theorem zmb:zaQ [j1,jW]:=by
 refine ⟨fun k=> if k= [99] then (0,0) else (0,1),by decide,by decide,?_,?_,by decide⟩
 ·intro i h c hc j hj
  have hl:(zm [j1,jW]).length=2:=by rfl
  match i,h with
  | 0,_=>
   have e:(zm [j1,jW])[0]= [j1,jW]:=rfl;rw [e] at hc;simp only [List.mem_cons,List.not_mem_nil,or_false] at hc;rcases hc with rfl | rfl
   ·have e2:zg.joins j1= [⟨bA, [bEe]⟩,⟨bC, []⟩]:=rfl
    rw [e2] at hj;simp only [List.mem_cons,List.not_mem_nil,or_false] at hj;rcases hj with rfl | rfl <;> rfl
   ·have e2:zg.joins jW= []:=rfl
    rw [e2] at hj;simp at hj
  | 1,h=>
   have e:(zm [j1,jW])[1]= []:=rfl;rw [e] at hc;simp at hc
  | i + 2,h=> omega
 ·intro p hp
  have e:zi [j1,jW]= [bD]:=rfl;rw [e] at hp;simp only [List.mem_cons,List.not_mem_nil,or_false] at hp;subst hp;rfl
theorem zlf:(Part.proc putT).size=13:=by rfl
theorem zi0:(zw 1 (.proc putT)).all (fun q=> q.1.shaped && decide (q.2<=12))=true:=by kernel_rfl
theorem zi2:zT (.proc putT):=by
 refine ⟨by rw [zlf];omega,fun q hq=> ?_⟩;have h1:=List.all_eq_true.1 zi0 q hq;simp only [Bool.and_eq_true,decide_eq_true_eq] at h1;refine ⟨h1.1,h1.2,?_⟩;rw [zv] at hq;rcases List.mem_cons.1 hq with rfl | hq
 ·exact fun _=> zhh
 ·have ha:(zM 2 (Part.proc putT).parts).all (fun q=> !defB q.1)=true:=by kernel_rfl
  have h2:=List.all_eq_true.1 ha q hq;exact zaY (by simpa using h2)
theorem zkY:Fine (.proc jv):=by
 have ha:((zw 0 (.proc jv)).map (·.1)).all Part.shaped=true:=by kernel_rfl
 exact fun q hq=> List.all_eq_true.1 ha q hq
theorem zhw:zT (.proc jv):=by
 have ha:(zw 1 (.proc jv)).all (fun q=> q.1.shaped && decide (q.2<=12) && !defB q.1)=true:=by kernel_rfl
 refine ⟨by decide,fun q hq=> ?_⟩;have h2:=List.all_eq_true.1 ha q hq;simp only [Bool.and_eq_true,decide_eq_true_eq] at h2;exact ⟨h2.1.1,h2.1.2,zaY (by simpa using h2.2)⟩
theorem zdS (p:Part) (k:List UInt8) (h:xW p k=true):k∈((zw 1 p).flatMap (fun q=> yA q.1::zR q.1)).map zb:=by
 unfold xW at h;obtain ⟨q,hq,h⟩:=List.any_eq_true.1 h;unfold zbk at h;rw [Bool.or_eq_true] at h;rcases h with h | h
 ·obtain ⟨b,hb,h⟩:=List.any_eq_true.1 h
  exact List.mem_map.2 ⟨b,List.mem_flatMap.2 ⟨q,hq,List.mem_cons_of_mem _ hb⟩,(by simpa using h:k=zb b).symm⟩
 ·rw [Bool.and_eq_true] at h
  exact List.mem_map.2 ⟨yA q.1,List.mem_flatMap.2 ⟨q,hq,List.mem_cons_self ..⟩,(by simpa using h.2:k=zb (yA q.1)).symm⟩
theorem zhr (t:Term) (x:ByteArray) (e:Exp) (m:Nat) (hm:(((zw 1 (.proc t)).flatMap (fun q=> yA q.1::zR q.1)).map zb ++ (((zw 1 (.exp e)).flatMap (fun q=> yA q.1::zR q.1)).map zb ++ [zb x])).length<=m):Cov (xy t x e) m:=by
 refine ⟨_,fun k hk=> ?_,hm⟩;unfold xy at hk;rw [Bool.or_eq_true,Bool.or_eq_true] at hk;rcases hk with (hk | hk) | hk
 ·exact List.mem_append_left _ (zdS _ _ hk)
 ·exact List.mem_append_right _ (List.mem_append_left _ (zdS _ _ hk))
 ·exact List.mem_append_right _ (List.mem_append_right _ (by simpa using hk))
theorem zlB:Cov (xy exT bB (nmE bX)) 100:=zhr _ _ _ _ (by decide)
theorem zlq:Cov (xy exT bQ (.mk 1 2 bE [])) 100:=zhr _ _ _ _ (by decide)
theorem zms:Cov (qE 60 (.proc exT)) 100:=⟨_,fun k hk=> zb9 _ _ _ hk,by decide⟩
theorem ziH:bcT exT=4:=by decide
theorem zmP:bcT jv=0:=by decide
end
end Go.Proofs.YtjmlaeofjjhfmaaGreat
