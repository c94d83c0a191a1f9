/-
  For every list of pairs the law FnExactBuild returns true: Build answers as the model does, writes into no argument, and its answer owns its memory; no condition.
-/
import Derived.Test.YtebglpllkjgjbaaGreatOfBuild28
import Derived.Test.YtebglpllkjgjbaaGreatOfBuild45
import Derived.Test.YtebglpllkjgjbaaGreatOfBuild44
import Derived.Test.YtebglpllkjgjbaaGreatOfBuild47
import Derived.Carry
namespace Go.Proofs.YtebglpllkjgjbaaGreat
set_option maxRecDepth 100000
set_option maxHeartbeats 8000000
section
open Go.ChangeShapes Go.WideShapes Go.ChangeAt Go.RowKit

theorem Nd (v:Value) (l:List (Int × Int)) (u:World) (h:Row u v l.length (Af l)) (hn:l.length<=1048576):Calls Tryz.prog 5 #[v] u fun e w' =>∃y:TV,e= .returned (.tuple #[y.val, .bool (Db l)])/\Aq 8 w' (fun g=>u.heap.size<=g) y (Bm l)/\Below u.heap.size u w':=
 PW (fun x T _ k v u hx hs=>Lj 8 x T 1 k v u hx.treeF.treeAt (by omega)) (fun x T u hx hs=>KY 8 x T u hx (by omega)) v l u h hn
theorem Nl (v:Value) (l:List (Int × Int)) (u:World) (h:Row u v l.length (Af l)) (hn:l.length<=1048576):Calls Tryz.prog 7 #[v] u fun e w' =>∃y:TV,e= .returned (.tuple #[y.val, .bool (Db l)])/\Aq 8 w' (fun g=>u.heap.size<=g) y (Bm l)/\Below u.heap.size u w':=
 PU (fun x T F k v u hx hs=>(Mp 8 (by omega) x T F 1 k v u hx hs).mono (fun e w' ⟨y,a,b,c⟩=>⟨y,8,a,b,c⟩)) (fun x T u hx _=>K6 8 x T u hx) v l u h hn
theorem Ke (v:Value) (l:List (Int × Int)) (w:World) (h:Row w v l.length (Af l)):Calls Tryz.prog 3 #[v] w fun e w' =>e= .returned (.bool true)/\Below w.heap.size w w' :=K7 Nd Nl v l w h

theorem Iy (os:Os) (started:os.Started) (H:Type) (enc:TypeId × Value->H) :
  ReturnsInHanded {} Tryz.checked os 3 .any (Rows.fnExactBuildSpec.pre6 enc Tryz.prog Tryz.f3 Rows.fnExactBuildRow.domain false) (Rows.fnExactBuildSpec.post enc Tryz.prog Tryz.f3 false true false false):=by
 refine returnsInHanded_of_change (C:=Tryz.checked) Tryz.own started (by kernel_rfl) Tryz.func3
  (ChangeSpec.witness6 (enc:=enc) (C:=Tryz.checked) false ⟨#[], #[.slice none 0 0],[]⟩ 8 (by kernel_rfl) (by kernel_rfl) (by kernel_rfl) (by kernel_rfl)) ?_
 intro W base args ds gs before hval0 hW _ _;have hval:∀(j:Nat) t v,Tryz.f3.params[j]? =some t->args[j]? =some v->Value.okWide Tryz.prog W .any base t v:=hval0
 have hW' :=hW
 obtain⟨p,q,hA0,hV,rfl,_,_⟩:=hW
 have hA:DataW.TrodAll enc Tryz.prog W 0 (fun _=>true) true Tryz.f3.params.toList args.toList ds p:=hA0
 rw[Tryz.params3] at hA hval
 obtain⟨v0,d0,rfl,rfl,h0⟩:=trodAll_one hA
 obtain⟨rfl,rfl⟩:=trodVars_none hV
 have lt0:∀x∈p,x.block<W.heap.size:=fun x hx=>hW'.lt x (by simp[hx])
 have k0:=h0
 obtain⟨l0,r0⟩:=Uz (hval 0 22 v0 rfl rfl) h0
 clear hA0 hval0;refine(Ke v0 l0 W r0).mono fun e W' ⟨he,bel⟩=> ?_
 subst he;exact⟨_,rfl,_,_,_,[],_,[],hW',trodAll_mk1 (shut_bool Tryz.underlying4 _),trodAll_mk1 (Below.trod Tryz.laidOut (by kernel_rfl) (of_decide_eq_true (by kernel_rfl)) k0 bel lt0),rfl,bel.frame _,fun h=>by cases h⟩

theorem fnExactBuild_holds:Rows.FnExactBuildSaid:=
 OpenClaim.holds_of_wide 3 Tryz.f3 rfl rfl rfl rfl rfl rfl rfl ⟨rfl,rfl,rfl,rfl,rfl⟩ rfl rfl rfl rfl rfl (by kernel_rfl) Tryz.func3 (by kernel_rfl)
  (of_decide_eq_true (by kernel_rfl)) (by unfold Func.isWrapper;rw[if_neg (of_decide_eq_false (by kernel_rfl))];exact⟨rfl,rfl⟩)
  (fun os started H enc _=>Iy os started H enc)
end
end Go.Proofs.YtebglpllkjgjbaaGreat
