/-
  For every row of bytes the law FnBuilt returns true: a map that is drawn off it, and built, tells itself, key by key and range by range; no condition.
-/
import Derived.Test.YtadmomgdacfgpaaGreatOfBuilt29
import Derived.Test.YtadmomgdacfgpaaGreatOfBuilt46
import Derived.Test.YtadmomgdacfgpaaGreatOfBuilt45
import Derived.Test.YtadmomgdacfgpaaGreatOfBuilt14
import Derived.Carry
namespace Go.Proofs.YtadmomgdacfgpaaGreat
set_option maxRecDepth 100000
set_option maxHeartbeats 8000000
section
open Go.ChangeShapes Go.WideShapes Go.ChangeAt Go.RowKit

theorem MU (v:Value) (l:List (Int × Int)) (u:World) (h:Row u v l.length (Ai l)) (hn:l.length<=1048576):Calls Tryz.prog 18 #[v] u fun e w' =>∃y:TV,e= .returned (.tuple #[y.val, .bool (Cy l)])/\Au 8 w' (fun g=>u.heap.size<=g) y (CF l)/\Below u.heap.size u w':=
 Ow (fun x T _ k v u hx hs=>Mx 8 x T 1 k v u hx.treeF.treeAt (by omega)) (fun x T u hx hs=>KG 8 x T u hx (by omega)) v l u h hn
theorem Nf (v:Value) (l:List (Int × Int)) (u:World) (h:Row u v l.length (Ai l)) (hn:l.length<=1048576):Calls Tryz.prog 17 #[v] u fun e w' =>∃y:TV,e= .returned (.tuple #[y.val, .bool (Cy l)])/\Au 8 w' (fun g=>u.heap.size<=g) y (CF l)/\Below u.heap.size u w':=
 Od (fun x T F k v u hx hs=>(La 8 (by omega) x T F 1 k v u hx hs).mono (fun e w' ⟨y,a,b,c⟩=>⟨y,8,a,b,c⟩)) (fun x T u hx _=>Hi 8 x T u hx) v l u h hn

theorem K6 (os:Os) (started:os.Started) (H:Type) (enc:TypeId × Value->H) :
  ReturnsInHanded {} Tryz.checked os 4 .any (Rows.fnBuiltSpec.pre6 enc Tryz.prog Tryz.f4 Rows.fnBuiltRow.domain false) (Rows.fnBuiltSpec.post enc Tryz.prog Tryz.f4 false true false false):=by
 refine returnsInHanded_of_change (C:=Tryz.checked) Tryz.own started (by kernel_rfl) Tryz.func4
  (ChangeSpec.witness6 (enc:=enc) (C:=Tryz.checked) false ⟨#[], #[.slice none 0 0],[]⟩ 8 (by kernel_rfl) (by kernel_rfl) (by kernel_rfl) (by kernel_rfl)) ?_
 intro W base args ds gs before hval0 hW _ _;have hval:∀(j:Nat) t v,Tryz.f4.params[j]? =some t->args[j]? =some v->Value.okWide Tryz.prog W .any base t v:=hval0
 have hW' :=hW
 obtain⟨p,q,hA0,hV,rfl,_,_⟩:=hW
 have hA:DataW.TrodAll enc Tryz.prog W 0 (fun _=>true) true Tryz.f4.params.toList args.toList ds p:=hA0
 rw[Tryz.params4] at hA hval
 obtain⟨v0,d0,rfl,rfl,h0⟩:=trodAll_one hA
 obtain⟨rfl,rfl⟩:=trodVars_none hV
 have lt0:∀x∈p,x.block<W.heap.size:=fun x hx=>hW'.lt x (by simp[hx])
 have k0:=h0
 obtain⟨l0,r0⟩:=Ud (hval 0 22 v0 rfl rfl) h0
 clear hA0 hval0;refine(PY Nf MU (Hi 8) v0 l0 W r0).mono fun e W' ⟨he,bel⟩=> ?_
 subst he;exact⟨_,rfl,_,_,_,[],_,[],hW',trodAll_mk1 (shut_bool Tryz.underlying4 _),trodAll_mk1 (Below.trod Tryz.laidOut (by kernel_rfl) (of_decide_eq_true (by kernel_rfl)) k0 bel lt0),rfl,bel.frame _,fun h=>by cases h⟩

theorem fnBuilt_holds:Rows.FnBuiltSaid:=
 OpenClaim.holds_of_wide 4 Tryz.f4 rfl rfl rfl rfl rfl rfl rfl ⟨rfl,rfl,rfl,rfl,rfl⟩ rfl rfl rfl rfl rfl (by kernel_rfl) Tryz.func4 (by kernel_rfl)
  (of_decide_eq_true (by kernel_rfl)) (by unfold Func.isWrapper;rw[if_neg (of_decide_eq_false (by kernel_rfl))];exact⟨rfl,rfl⟩)
  (fun os started H enc _=>K6 os started H enc)
end
end Go.Proofs.YtadmomgdacfgpaaGreat
