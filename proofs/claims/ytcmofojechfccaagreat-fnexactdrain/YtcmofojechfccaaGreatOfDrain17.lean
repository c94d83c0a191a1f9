/-
  A region that draws its order and whose last operation waits for all others: that one may be kept for the end.
-/
import Derived.Test.YtcmofojechfccaaGreatOfDrain16
import Derived.Deep.RegionHeld3
namespace Go.Proofs.YtcmofojechfccaaGreat
set_option maxRecDepth 100000
set_option maxHeartbeats 8000000
section
open Go.RowKit

theorem tk {P:Program} {ops:Array Oper} {Q:Exit->Act->World->Prop} {md:Region.Mode} {S:World->Prop} (i:Nat) {oi:Oper} {v:Value} {fuel:Nat} {listed:Array Bool} {a:Act} {w:World} (hi:ops[i]? =some oi)
  (hc:(Region.noSelect ops&&Region.free md ops listed i&&(Region.ready md ops listed).contains i)=true)
  (hQ:∀c a w,Q (.panic c) (a.put oi.dst v) w->Q (.panic c) a w) (hy:YieldsIf P ops S oi v a) (hS:S w)
  (h:wpAnyH P md ops Q S fuel (listed.setIfInBounds i true) (a.put oi.dst v) w):wpAnyH P md ops Q S (fuel+1) listed a w:=by
 simp only[Bool.and_eq_true] at hc
 exact wpAnyH_take hi hc.1.1 hc.1.2 hc.2 hQ hy hS h
theorem sA {α :Type} (l:List α) (i:Nat) (x: α):l.toArray.setIfInBounds i x=(l.set i x).toArray:=List.setIfInBounds_toArray ..
theorem sB {α :Type} (a: α) (l:List α) (x: α):(a::l).set 0 x=x::l:=List.set_cons_zero
theorem sC {α :Type} (a: α) (l:List α) (n:Nat) (x: α):(a::l).set (n+1) x=a::l.set n x:=List.set_cons_succ

def LastQ (P:Program) (st:Oper) (Q:Exit->Act->World->Prop):Exit->Act->World->Prop
 |.normal,a,w=>st.wp P a w (Q .normal) Q
 |e,a,w=>Q e a w

theorem upon_last {P:Program} {o st:Oper} {a:Act} {K:Act->World->Prop} {Q:Exit->Act->World->Prop} {r:Result Next} (h:o.upon P a K (LastQ P st Q) r):o.upon P a K Q r:=by
 cases r with
 |ok n w'=>
  cases n<;>simp only[Oper.upon] at h ⊢
  case value v=>exact h
  case skip=>exact h
  case defer d=>exact h
  case row row args=>exact h
  case enter f args=>
   refine Calls.mono h fun e w'' he=> ?_
   cases e with
   |returned u=>exact he
   |panicked c=>exact he
   |outgrown=>obtain⟨a,w,h⟩:=he;exact⟨a,w,h⟩
 |halt x w'=>
  cases x<;>simp only[Oper.upon] at h ⊢
  case panic u=>exact h
theorem wpOp_last {P:Program} {ops ops' :Array Oper} {st o:Oper} {i:Nat} {a:Act} {w:World} {K:Act->World->Prop} {Q:Exit->Act->World->Prop} (ho:ops[i]? =some o) (ho' :ops'[i]? =some o) (hg:o.guard=none)
  (h:wpOp P ops (LastQ P st Q) i K a w):wpOp P ops' Q i K a w:=by
 unfold wpOp at *
 simp only[ho,ho'] at *
 have hw:∀y,Region.wanted o y=true:=fun y=>by simp[Region.wanted,hg]
 rw[hw] at h ⊢
 simp only[if_true] at *
 rcases h with h|⟨h1,a',w',h2⟩
 ·exact .inl (upon_last h)
 ·exact .inr ⟨h1,a',w',h2⟩

def lastB (l:List Oper) (st:Oper):Bool:=
 (List.range l.length).all (fun i=>match l[i]? with
  |some o=>o.guard.isNone&&o.after.toList.all fun e=>decide (e.on<i)
  |none=>false)&&(st.guard.isNone&&((List.range l.length).all (fun i=>st.after.toList.any fun e=>Region.binds .any e&&decide (e.on=i))&&st.after.toList.all fun e=>decide (e.on<l.length)))

variable {P:Program} {l:List Oper} {st:Oper} {Q:Exit->Act->World->Prop}

theorem lastB_parts (h:lastB l st=true):(∀(i:Nat) (o:Oper),l[i]? =some o->o.guard=none/\∀e∈o.after,e.on<i)/\st.guard=none/\(∀i,i<l.length->∃e∈st.after,Region.binds .any e=true/\e.on=i)/\∀e∈st.after,e.on<l.length:=by
 simp only[lastB,Bool.and_eq_true,List.all_eq_true,List.mem_range,List.any_eq_true,decide_eq_true_eq] at h
 obtain⟨h1,h2,h3,h4⟩:=h
 refine⟨fun i o ho=> ?_,by simpa using h2,fun i hi=> ?_,fun e he=>h4 e (by simpa using he)⟩
 ·have:=h1 i (List.getElem?_eq_some_iff.1 ho).1
  rw[ho] at this
  simp only[Bool.and_eq_true,List.all_eq_true,decide_eq_true_eq] at this
  exact⟨by simpa using this.1,fun e he=>this.2 e (by simpa using he)⟩
 ·obtain⟨e,he,hb,hon⟩:=h3 i hi
  exact⟨e,by simpa using he,hb,hon⟩

theorem all_listed (h:∀(i:Nat) (o:Oper),l[i]? =some o->o.guard=none/\∀e∈o.after,e.on<i) {listed:Array Bool} (hs:listed.size=l.length) (hr:Region.ready .any l.toArray listed=[]):∀i,i<l.length->listed.getD i false=true:=by
 intro i
 induction i using Nat.strongRecOn with
 |ind i ih=>
  intro hi
  rcases hb:listed.getD i false with _|_
  ·exfalso
   have hm:i∈Region.ready .any l.toArray listed:=by
    rw[mem_ready]
    refine⟨?_,l[i],by simp[hi],fun e he _=>ih e.on ((h i l[i] (by simp[hi])).2 e he) (Nat.lt_trans ((h i l[i] (by simp[hi])).2 e he) hi)⟩
    have:i<listed.size:=by omega
    simp[this] at hb ⊢
    exact hb
   rw[hr] at hm
   cases hm
  ·rfl

theorem getD_push {listed:Array Bool} {i:Nat} (d:Bool) (hi:i<listed.size):(listed.push false).getD i d=listed.getD i d:=by
 simp[Array.getElem?_push,Nat.ne_of_lt hi]
theorem push_set {listed:Array Bool} {i:Nat} (hi:i<listed.size):(listed.push false).setIfInBounds i true=(listed.setIfInBounds i true).push false:=by
 apply Array.ext'
 simp only[Array.toList_setIfInBounds,Array.toList_push]
 rw[List.set_append_left _ _ (by simpa using hi)]

theorem ready_push (h:lastB l st=true) {listed:Array Bool} (hs:listed.size=l.length) {i:Nat} (hi:i<l.length) (hm:i∈Region.ready .any (l++[st]).toArray (listed.push false)):i∈Region.ready .any l.toArray listed:=by
 rw[mem_ready] at *
 obtain⟨h0,o,ho,hall⟩:=hm
 rw[getD_push true (by omega)] at h0
 have ho' :l[i]? =some o:=by
  rw[List.getElem?_toArray,List.getElem?_append_left hi] at ho
  exact ho
 refine⟨h0,o,by simpa using ho',fun e he hb=> ?_⟩
 have:=hall e he hb
 rw[getD_push false (by have:=((lastB_parts h).1 i o ho').2 e he;omega)] at this
 exact this

theorem wpAny_last (h:lastB l st=true):∀(fuel:Nat) (listed:Array Bool) (a:Act) (w:World),listed.size=l.length->wpAny P .any l.toArray (LastQ P st Q) fuel listed a w->wpAny P .any (l++[st]).toArray Q (fuel+1) (listed.push false) a w:=by
 obtain⟨p1,p2,p3,p4⟩:=lastB_parts h
 intro fuel
 induction fuel with
 |zero=>
  intro listed a w hs hw
  have hall:=all_listed p1 hs hw.1
  refine⟨fun h0=> ?_,fun i hi=> ?_⟩
  ·exfalso
   have hm:l.length∈Region.ready .any (l++[st]).toArray (listed.push false):=by
    rw[mem_ready]
    refine⟨by simp[←hs],st,by simp,fun e he _=> ?_⟩
    rw[getD_push false (by have:=p4 e he;omega)]
    exact hall _ (p4 e he)
   rw[h0] at hm
   cases hm
  ·by_cases hil:i<l.length
   ·have:=ready_push h hs hil hi
    rw[hw.1] at this
    cases this
   ·have hin:i=l.length:=by
     obtain⟨_,o,ho,_⟩:=mem_ready.1 hi
     have:=(Array.getElem?_eq_some_iff.1 ho).1
     simp at this
     omega
    subst hin
    have hq:st.wp P a w (Q .normal) Q:=hw.2
    unfold wpOp
    have hst:(l++[st]).toArray[l.length]? =some st:=by simp
    simp only[hst]
    rw[if_pos (by simp[Region.wanted,p2])]
    refine .inl (Oper.wp_mono (fun a' w' hq' => ?_) hq)
    refine⟨List.filter_eq_nil_iff.2 fun j hj=> ?_,hq'⟩
    have hj' :j<l.length+1:=by simpa using hj
    have:((listed.push false).setIfInBounds l.length true).getD j true=true:=by
     by_cases hjl:j=l.length
     ·subst hjl;simp
     ·rw[getD_set_ne true (Ne.symm hjl),getD_push true (by omega)]
      have:=hall j (by omega)
      have hlt:j<listed.size:=by omega
      simp[hlt] at this ⊢
      exact this
    rw[this]
    simp
 |succ fuel ih=>
  intro listed a w hs hw
  refine⟨fun h0=> ?_,fun i hi=> ?_⟩
  ·exfalso
   have hr:Region.ready .any l.toArray listed=[]:=by
    rw[List.eq_nil_iff_forall_not_mem]
    intro i hi
    have hil:i<l.length:=by
     obtain⟨_,o,ho,_⟩:=mem_ready.1 hi
     have:=(Array.getElem?_eq_some_iff.1 ho).1
     simpa using this
    have hm:i∈Region.ready .any (l++[st]).toArray (listed.push false):=by
     rw[mem_ready] at *
     obtain⟨h1,o,ho,hall⟩:=hi
     have ho' :l[i]? =some o:=by simpa using ho
     refine⟨by rw[getD_push true (by omega)];exact h1,o,by rw[List.getElem?_toArray,List.getElem?_append_left hil];exact ho',fun e he hb=> ?_⟩
     rw[getD_push false (by have:=(p1 i o ho').2 e he;omega)]
     exact hall e he hb
    rw[h0] at hm
    cases hm
   have hall:=all_listed p1 hs hr
   have hm:l.length∈Region.ready .any (l++[st]).toArray (listed.push false):=by
    rw[mem_ready]
    refine⟨by simp[←hs],st,by simp,fun e he _=> ?_⟩
    rw[getD_push false (by have:=p4 e he;omega)]
    exact hall _ (p4 e he)
   rw[h0] at hm
   cases hm
  ·by_cases hil:i<l.length
   ·have hm:=ready_push h hs hil hi
    have h1:=hw.2 i hm
    have ho:l.toArray[i]? =some l[i]:=by simp[hil]
    have ho' :(l++[st]).toArray[i]? =some l[i]:=by rw[List.getElem?_toArray,List.getElem?_append_left hil];simp[hil]
    have h2:=wpOp_last ho ho' (p1 i l[i] (by simp[hil])).1 h1
    refine wpOp_mono (fun a' w' h3=> ?_) h2
    rw[push_set (by omega)]
    exact ih _ a' w' (by simpa using hs) h3
   ·have hin:i=l.length:=by
     obtain⟨_,o,ho,_⟩:=mem_ready.1 hi
     have:=(Array.getElem?_eq_some_iff.1 ho).1
     simp at this
     omega
    subst hin
    have hall:∀j,j<l.length->listed.getD j false=true:=by
     intro j hj
     obtain⟨e,he,hb,hon⟩:=p3 j hj
     obtain⟨_,o,ho,hx⟩:=mem_ready.1 hi
     have:o=st:=by simpa using ho.symm
     subst this
     have:=hx e he hb
     rw[getD_push false (by have:=p4 e he;omega),hon] at this
     exact this
    have hr:Region.ready .any l.toArray listed=[]:=by
     rw[List.eq_nil_iff_forall_not_mem]
     intro j hj
     obtain⟨h1,o,ho,_⟩:=mem_ready.1 hj
     have hjl:j<l.length:=by
      have:=(Array.getElem?_eq_some_iff.1 ho).1
      simpa using this
     have:=hall j hjl
     have hlt:j<listed.size:=by omega
     simp[hlt] at this h1
     rw[h1] at this
     cases this
    have hq:st.wp P a w (Q .normal) Q:=hw.1 hr
    unfold wpOp
    have hst:(l++[st]).toArray[l.length]? =some st:=by simp
    simp only[hst]
    rw[if_pos (by simp[Region.wanted,p2])]
    refine .inl (Oper.wp_mono (fun a' w' hq' => ?_) hq)
    refine wpAny_done (List.filter_eq_nil_iff.2 fun j hj=> ?_) hq' _
    have hj' :j<l.length+1:=by simpa using hj
    have:((listed.push false).setIfInBounds l.length true).getD j true=true:=by
     by_cases hjl:j=l.length
     ·subst hjl;simp[hs]
     ·rw[getD_set_ne true (Ne.symm hjl),getD_push true (by omega)]
      have:=hall j (by omega)
      have hlt:j<listed.size:=by omega
      simp[hlt] at this ⊢
      exact this
    rw[this]
    simp

theorem wp_region_last {id:Nat} {ops:Array Oper} {a:Act} {w:World} (S:World->Prop) (l:List Oper) (st:Oper) (hops:ops=(l++[st]).toArray) (hm:P.follows .mixedOrders=true) (h:lastB l st=true)
  (H:wpAnyH P .any l.toArray (LastQ P st Q) S l.length (Array.replicate l.length false) a w.drew):(Code.region id ops true).wp P Q a w:=by
 subst hops
 refine wp_region_any hm ?_
 have h1:=wpAny_last (Q:=Q) h l.length (Array.replicate l.length false) a w.drew (by simp) (wpAny_of_held _ _ _ _ H)
 have e:(Array.replicate l.length false).push false=Array.replicate (l++[st]).toArray.size false:=by
  apply Array.ext'
  simp[←List.replicate_succ']
 rw[e] at h1
 have e2:(l++[st]).toArray.size=l.length+1:=by simp
 rw[e2] at h1 ⊢
 exact h1
end
end Go.Proofs.YtcmofojechfccaaGreat
