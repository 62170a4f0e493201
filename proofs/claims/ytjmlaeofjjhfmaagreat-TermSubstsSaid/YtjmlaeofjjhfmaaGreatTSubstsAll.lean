/- The theorem of the stage holds for every process, every two names and every two expressions, with no condition: with expressions put in place of two names, of which the first one is not free in the second expression, either order gives the same up to bound names, unless some of it is refused. -/
import Derived.Test.YtjmlaeofjjhfmaaGreatRows
import Derived.Test.YtjmlaeofjjhfmaaGreatS45
import Derived.Test.YtjmlaeofjjhfmaaGreatS46
import Derived.WalkKit
import Derived.ProofKit
import Derived.OpenShut
import Derived.ShutString
import Derived.ChangeOld
import Derived.Below
import Derived.Deep.Strs
set_option linter.unusedVariables false
set_option linter.unusedSimpArgs false
set_option maxRecDepth 10000
set_option maxHeartbeats 16000000
namespace Go.Proofs.YtjmlaeofjjhfmaaGreat
open Go.ChangeShapes Go.WideShapes Go.ChangeAt Go.RowKit Go.Deep
theorem own:ownKnob Tryz.prog.godebug=none:=by kernel_rfl
theorem ziv:laidOutB Tryz.prog=true:=by kernel_rfl
theorem cel36:Tryz.prog.cellsOf 36=4:=by kernel_rfl
set_option maxRecDepth 100000 in
theorem two_in {H:Type} {enc:TypeId×Value->H} {w:World} {base:Nat} {spare:Nat->Bool} {held:Bool} {v:Value} {r:Reach} {b0:Nat} {d:DataW H} {ps:List MemPlace} (hv:Value.okWide Tryz.prog w r b0 56 v) (h:DataW.Trod enc Tryz.prog w base spare held 56 v d ps):
  ∃(X Y:ByteArray) (es fs:List Value) (E F:Exp),v= .agg (.string X:: .string Y::(es ++ fs)).toArray/\X.size<=maxLen/\Y.size<=maxLen/\zy w.heap.size w es E/\zy w.heap.size w fs F:=by
 obtain ⟨cs,rfl⟩:=ziI Tryz.underlying56 hv;obtain ⟨fuel,hf⟩:=h;simp only [Value.cells] at hf;obtain ⟨xs,n,_,_,hl,hlen,hf⟩:=DataW.trod_struct (cs:=cs) Tryz.underlying56 (by simpa using hf);rw [show Tryz.prog.cellsOf 56=10 from by kernel_rfl] at hl
 match xs,hlen with
 | [y0,y1,y2,y3],_=>
 match cs,hl with
 | [c0,c1,c2,c3,c4,c5,c6,c7,c8,c9],_=>
 have f0:DataW.trod enc Tryz.prog w base spare held n 9 [c0]=some y0:=by simpa [cel9] using hf 0 _ rfl
 have f1:DataW.trod enc Tryz.prog w base spare held n 9 [c1]=some y1:=by simpa [cel9] using hf 1 _ rfl
 have f2:DataW.trod enc Tryz.prog w base spare held n 36 [c2,c3,c4,c5]=some y2:=by simpa [cel9,cel36] using hf 2 _ rfl
 have f3:DataW.trod enc Tryz.prog w base spare held n 36 [c6,c7,c8,c9]=some y3:=by simpa [cel9,cel36] using hf 3 _ rfl
 obtain ⟨X,h0,_,hX⟩:=DataW.trod_string Tryz.underlying9 f0;obtain ⟨Y,h1,_,hY⟩:=DataW.trod_string Tryz.underlying9 f1;obtain ⟨E,hE⟩:=znc n _ _ f2;obtain ⟨F,hF⟩:=znc n _ _ f3;simp only [List.cons.injEq,and_true] at h0 h1;subst h0;subst h1;exact ⟨X,Y,_,_,E,F,rfl,hX,hY,hE,hF⟩
set_option maxRecDepth 100000 in
theorem substs_lifted (os:Os) (started:os.Started) (H:Type) (enc:TypeId×Value->H):
  ReturnsInHanded {} Tryz.checked os 8 .any (Rows.termSubstsSpec.pre6 enc Tryz.prog Tryz.f8 Rows.termSubstsRow.domain false) (Rows.termSubstsSpec.post enc Tryz.prog Tryz.f8 false true false false):=by
 refine returnsInHanded_of_change (C:=Tryz.checked) own started (by kernel_rfl) Tryz.func8
  (ChangeSpec.witness6 (enc:=enc) (C:=Tryz.checked) false ⟨#[],#[.agg #[.int .i64 0, .string ByteArray.empty, .slice none 0 0, .slice none 0 0, .slice none 0 0], .agg #[.string ByteArray.empty, .string ByteArray.empty, .int .i64 0, .int .i64 0, .string ByteArray.empty, .slice none 0 0, .int .i64 0, .int .i64 0, .string ByteArray.empty, .slice none 0 0]], []⟩ 8 (by kernel_rfl) (by kernel_rfl) (by kernel_rfl) (by kernel_rfl)) ?_
 intro W base args ds gs before hval0 hW hcnd _;have hval:∀(j:Nat) t v,Tryz.f8.params[j]?=some t->args[j]?=some v->Value.okWide Tryz.prog W .any base t v:=hval0;have hW':=hW;obtain ⟨p,q,hA0,hV,rfl,hfz,hnd⟩:=hW;have hA:DataW.TrodAll enc Tryz.prog W 0 (fun _=> true) true Tryz.f8.params.toList args.toList ds p:=hA0;rw [Tryz.params8] at hA hval;obtain ⟨v0,v1,d0,d1,p0,p1,rfl,rfl,rfl,h0,h1⟩:=trodAll_two hA;obtain ⟨rfl,rfl⟩:=trodVars_none hV;have k0:=h0;have k1:=h1;have lt0:∀x∈p0,x.block < W.heap.size:=by obtain ⟨m,hm⟩:=k0;exact DataW.trod_lt m _ _ _ hm
 have lt1:∀x∈p1,x.block < W.heap.size:=by obtain ⟨m,hm⟩:=k1;exact DataW.trod_lt m _ _ _ hm
 obtain ⟨cs,t,rfl,ht⟩:=zm2 (hval 0 33 v0 rfl rfl) h0;obtain ⟨X,Y,es,fs,E,F,rfl,hX,hY,hE,hF⟩:=two_in (hval 1 56 v1 rfl rfl) h1;clear hA0 hval0;refine (row8_any cs es fs t X Y E F W hX hY ht hE hF).mono fun e W' ⟨he,bel⟩=> ?_;subst he;exact ⟨_,rfl,_,_,_, [],_, [],hW',trodAll_mk1 (shut_bool Tryz.underlying4 _),(trodAll_cons_mk (Below.trod ziv (by kernel_rfl) (of_decide_eq_true (by kernel_rfl)) k0 bel lt0) (trodAll_cons_mk (Below.trod ziv (by kernel_rfl) (of_decide_eq_true (by kernel_rfl)) k1 bel lt1) trodAll_mk0)),rfl,bel.frame _,fun h=> by cases h⟩
theorem termSubsts:Rows.TermSubstsSaid:=
 OpenClaim.holds_of_wide 8 Tryz.f8 rfl rfl rfl rfl rfl rfl rfl ⟨rfl,rfl,rfl,rfl,rfl⟩ rfl rfl rfl rfl rfl (by kernel_rfl) Tryz.func8 (by kernel_rfl)
  (of_decide_eq_true (by kernel_rfl)) (by unfold Func.isWrapper;first | (rw [if_pos (by decide +kernel)];kernel_rfl) | (rw [if_neg (by decide +kernel)];exact ⟨rfl,rfl⟩))
  (fun os started H enc _=> substs_lifted os started H enc)
#print axioms termSubsts
end Go.Proofs.YtjmlaeofjjhfmaaGreat
