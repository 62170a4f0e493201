/- The law on parts, on processes beside each other and on what is laid out holds for every process and every list of processes, with no condition. -/
import Derived.Test.YtjmlaeofjjhfmaaGreatRows
import Derived.Test.YtjmlaeofjjhfmaaGreatQ47
import Derived.Test.YtjmlaeofjjhfmaaGreatQ31
import Derived.Test.YtjmlaeofjjhfmaaGreatQ48
import Derived.WalkKit
import Derived.ProofKit
import Derived.OpenShut
import Derived.ShutString
import Derived.ChangeOld
import Derived.Below
import Derived.Deep.Strs
set_option linter.unusedVariables false
set_option linter.unusedSimpArgs false
set_option maxRecDepth 10000
set_option maxHeartbeats 16000000
namespace Go.Proofs.YtjmlaeofjjhfmaaGreat
open Go.ChangeShapes Go.WideShapes Go.ChangeAt Go.RowKit Go.Deep
theorem own:ownKnob Tryz.prog.godebug=none:=by kernel_rfl
theorem ziv:laidOutB Tryz.prog=true:=by kernel_rfl
theorem znw:zbK:=fun t h60 hsh B u w cs hu hB hv=> (zm9 (Part.proc t).size).1 t (ZL _) h60 hsh B u w cs hu hB hv
theorem zlW {H:Type} {enc:TypeId×Value->H} {w:World} {base:Nat} {spare:Nat->Bool} {held:Bool} {a:Option Addr} {len cap:Nat} {d:DataW H} {ps:List MemPlace}
  (h:DataW.Trod enc Tryz.prog w base spare held 31 (.slice a len cap) d ps):∃l:List Term,SlT w (.slice a len cap) l:=by
 obtain ⟨fuel,hf⟩:=h;obtain ⟨v,h1,l,h2⟩:=xw (k:=5) (cs:= [.slice a len cap]) Tryz.underlying31 (by kernel_rfl) (by omega) (ze w.heap.size w) (fun j cs' y hj hy=> (zig j).1 cs' y hy) (by simpa [Value.cells] using hf);obtain rfl:Value.slice a len cap=v:=by simpa using h1
 exact ⟨l,h2.imp (ZL _) (fun b off _ hp=> zu.of_get l b off hp)⟩
set_option maxRecDepth 100000 in
theorem zgI (os:Os) (started:os.Started) (H:Type) (enc:TypeId×Value->H):
  ReturnsInHanded {} Tryz.checked os 11 .any (Rows.termPartsSpec.pre6 enc Tryz.prog Tryz.f11 Rows.termPartsRow.domain false) (Rows.termPartsSpec.post enc Tryz.prog Tryz.f11 false true false false):=by
 refine returnsInHanded_of_change (C:=Tryz.checked) own started (by kernel_rfl) Tryz.func11
  (ChangeSpec.witness6 (enc:=enc) (C:=Tryz.checked) false ⟨#[],#[.agg #[.int .i64 0, .string ByteArray.empty, .slice none 0 0, .slice none 0 0, .slice none 0 0], .slice none 0 0], []⟩ 8 (by kernel_rfl) (by kernel_rfl) (by kernel_rfl) (by kernel_rfl)) ?_
 intro W base args ds gs before hval0 hW hcnd _;have hval:∀(j:Nat) t v,Tryz.f11.params[j]?=some t->args[j]?=some v->Value.okWide Tryz.prog W .any base t v:=hval0;have hW':=hW;obtain ⟨p,q,hA0,hV,rfl,hfz,hnd⟩:=hW;have hA:DataW.TrodAll enc Tryz.prog W 0 (fun _=> true) true Tryz.f11.params.toList args.toList ds p:=hA0;rw [Tryz.params11] at hA hval;obtain ⟨v0,v1,d0,d1,p0,p1,rfl,rfl,rfl,h0,h1⟩:=trodAll_two hA;obtain ⟨rfl,rfl⟩:=trodVars_none hV;have k0:=h0;have k1:=h1;have lt0:∀x∈p0,x.block < W.heap.size:=by obtain ⟨m,hm⟩:=k0;exact DataW.trod_lt m _ _ _ hm
 have lt1:∀x∈p1,x.block < W.heap.size:=by obtain ⟨m,hm⟩:=k1;exact DataW.trod_lt m _ _ _ hm
 obtain ⟨cs,t,rfl,ht⟩:=zm2 (hval 0 33 v0 rfl rfl) h0;obtain ⟨a1,len1,cap1,rfl⟩:=okWide_slice Tryz.underlying31 (hval 1 31 v1 rfl rfl);obtain ⟨l,hl⟩:=zlW h1;clear hA0 hval0;refine (zkh znw cs t _ l W ht hl).mono fun e W' ⟨he,bel⟩=> ?_;subst he;exact ⟨_,rfl,_,_,_, [],_, [],hW',trodAll_mk1 (shut_bool Tryz.underlying4 _),(trodAll_cons_mk (Below.trod ziv (by kernel_rfl) (of_decide_eq_true (by kernel_rfl)) k0 bel lt0) (trodAll_cons_mk (Below.trod ziv (by kernel_rfl) (of_decide_eq_true (by kernel_rfl)) k1 bel lt1) trodAll_mk0)),rfl,bel.frame _,fun h=> by cases h⟩
theorem termParts:Rows.TermPartsSaid:=
 OpenClaim.holds_of_wide 11 Tryz.f11 rfl rfl rfl rfl rfl rfl rfl ⟨rfl,rfl,rfl,rfl,rfl⟩ rfl rfl rfl rfl rfl (by kernel_rfl) Tryz.func11 (by kernel_rfl)
  (of_decide_eq_true (by kernel_rfl)) (by unfold Func.isWrapper;first | (rw [if_pos (by decide +kernel)];kernel_rfl) | (rw [if_neg (by decide +kernel)];exact ⟨rfl,rfl⟩))
  (fun os started H enc _=> zgI os started H enc)
#print axioms termParts
end Go.Proofs.YtjmlaeofjjhfmaaGreat
