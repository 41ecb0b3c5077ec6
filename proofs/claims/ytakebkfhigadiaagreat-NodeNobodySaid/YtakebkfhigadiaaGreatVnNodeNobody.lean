/-
  NodeNobody: for every input the call tells true,and nothing that was there turns. No condition.
-/
import Derived.Test.YtakebkfhigadiaaGreatRows
import Derived.Test.YtakebkfhigadiaaGreatVnLaw
import Derived.Test.YtakebkfhigadiaaGreatVnW15
import Derived.Test.YtakebkfhigadiaaGreatVnW15
import Derived.Test.YtakebkfhigadiaaGreatVnRyOp
import Derived.Test.YtakebkfhigadiaaGreatVnW55
set_option maxRecDepth 100000
namespace Go.Proofs.YtakebkfhigadiaaGreat.NodeNobody
open Go NoX Ry Law NoR NoS
open Go.ChangeShapes Go.WideShapes Go.ChangeAt Go.Joins Go.RowKit
theorem own:ownKnob Tryz.prog.godebug=none:=by kernel_rfl
theorem laidOut:laidOutB Tryz.prog=true:=by kernel_rfl
theorem lifted (os:Os) (started:os.Started) (H:Type) (enc:TypeId × Value→H) :
  ReturnsInHanded {} Tryz.checked os 3 .any (Rows.nodeNobodySpec.pre6 enc Tryz.prog Tryz.f3 Rows.nodeNobodyRow.domain false) (Rows.nodeNobodySpec.post enc Tryz.prog Tryz.f3 false true false false):=by
 refine returnsInHanded_of_change_sized (C:=Tryz.checked) own started (by kernel_rfl) Tryz.func3
  (ChangeSpec.witness6 (enc:=enc) (C:=Tryz.checked) false ⟨#[],#[.agg #[.int .i64 0,.int .i64 0,.int .i64 0,.slice none 0 0,.int .i64 0,.int .i64 0,.int .i64 0,.int .i64 0,.slice none 0 0]],[]⟩ 8 (by kernel_rfl) (by kernel_rfl) (by kernel_rfl) (by kernel_rfl)) ?_
 intro W base args ds gs before hval0 hW _ hz _
 have hval:∀ (j:Nat) t v,Tryz.f3.params[j]? = some t→args[j]? = some v→Value.okWide Tryz.prog W .any base t v:=hval0
 have hW':=hW
 obtain⟨p,q,hA0,hV,rfl,_,_⟩:=hW
 have hA:DataW.TrodAll enc Tryz.prog W 0 (fun _=>true) true Tryz.f3.params.toList args.toList ds p:=hA0
 rw [Tryz.params3] at hA hval
 obtain⟨v0,d0,rfl,rfl,h0⟩:=trodAll_one hA
 obtain⟨rfl,rfl⟩:=trodVars_none hV
 obtain⟨a0,r0,w0⟩:=LK (s:=.int .i64 (.int .i64 (.int .i64 (.ints .u8 (.int .i64 (.int .i64 (.int .i64 (.int .i64 (.ints .u8 .nil))))))))) (by rw [Tryz.underlying26]) (by kernel_rfl) (by kernel_rfl) (hval 0 26 v0 rfl rfl) h0
 refine (walk a0 v0 W r0 w0).mono fun e W' ⟨he,hb⟩=>?_
 subst he
 exact⟨_,rfl,Ho laidOut (by kernel_rfl) (by kernel_rfl) Tryz.underlying4 rfl hW' rfl hb⟩
theorem proved:Rows.NodeNobodySaid :=
 OpenClaim.holds_of_wide 3 Tryz.f3 rfl rfl rfl rfl rfl rfl rfl ⟨rfl,rfl,rfl,rfl,rfl⟩ rfl rfl rfl rfl rfl (by kernel_rfl) Tryz.func3 (by kernel_rfl)
  (of_decide_eq_true (by kernel_rfl)) (by unfold Func.isWrapper;first|(rw [if_pos (by decide +kernel)];kernel_rfl)|(rw [if_neg (by decide +kernel)];exact⟨rfl,rfl⟩))
  (fun os started H enc _=>lifted os started H enc)
end Go.Proofs.YtakebkfhigadiaaGreat.NodeNobody
