/-
  A region that draws its order: operations that only make memory may come at any time; the walk takes them first, and bears that new blocks appear between its steps.
  Trees side by side that are being put together: the row of trees and the row of cuts are one's own, the trees lie elsewhere.
  The contract of the model's l4Leaf.
  The contract of the model's l4Pack.
  Rows of trees, piece by piece; the contract of the model's l4Put over trees.
  Trees in memory of their own, each row apart from all others.
-/
import Derived.Test.YtkcaelfkcepdkaaGreatOfNote8
import Derived.Test.YtkcaelfkcepdkaaGreatOfNote12
namespace Go.Proofs.YtkcaelfkcepdkaaGreat
set_option maxRecDepth 100000
set_option maxHeartbeats 8000000
section
open Go.RowKit

def AH (w w' :World):Prop:=Below w.heap.size w w'
theorem AH.refl (w:World):AH w w:=Below.refl _ _
theorem AH.trans {a b c:World} (h:AH a b) (k:AH b c):AH a c:=Below.and h k

variable {P:Program} {ops:Array Oper} {Q:Exit->Act->World->Prop} {S:World->Prop}

def wpR (P:Program) (ops:Array Oper) (Q:Exit->Act->World->Prop) (S:World->Prop):Nat->Array Bool->Act->World->Prop
 |0,listed,a,w=>∀w',AH w w' ->S w' ->Region.ready .any ops listed=[]/\Q .normal a w'
 | f + 1, listed, a, w => ∀ w', AH w w' → S w' → (Region.ready .any ops listed = [] → Q .normal a w') ∧
   ∀i∈Region.ready .any ops listed,wpOp P ops Q i (fun a' w'' =>S w'' ∧wpR P ops Q S f (listed.setIfInBounds i true) a' w'') a w'

theorem wpR.later:∀ {f:Nat} {listed:Array Bool} {a:Act} {w u:World},wpR P ops Q S f listed a w->AH w u->wpR P ops Q S f listed a u
 |0,_,_,_,_,h,k=>fun w' hw hS=>h w' (k.trans hw) hS
 |_+1,_,_,_,_,h,k=>fun w' hw hS=>h w' (k.trans hw) hS
theorem wpR.held:∀ {f:Nat} {listed:Array Bool} {a:Act} {w:World},wpR P ops Q S f listed a w->S w->wpAnyH P .any ops Q S f listed a w
 |0,_,_,w,h,hS=>h w (AH.refl w) hS
 |f+1,_,_,w,h,hS=>by
  obtain⟨h1,h2⟩:=h w (AH.refl w) hS
  exact⟨h1,fun i hi=>wpOp_mono (fun a' w' k=>⟨k.1,k.2.held k.1⟩) (h2 i hi)⟩

def Gy (o:Oper):Bool:=
 match o.op with
 |.move _| .assign _| .alloc _| .build _ _| .buildSlice _ _ _| .load _ _| .store _ _ _| .binOp _ _ _ _ _| .slice _ _ _ _ _| .fieldAddr _ _ _| .indexAddr _ _ _=>true
 |.call c=>match c.callee with
  |.builtin .append=>true
  |_=>false
 |_=>false
theorem Pg {o:Oper} (h:Gy o=true) (ρ :Operand->Value) (w:World):(∃v w',(execOp ρ o).run P w= .ok (.value v) w')∨(∃w',(execOp ρ o).run P w= .ok .skip w')∨∃x w',(execOp ρ o).run P w= .halt x w' :=by
 have key:∀s:Sem Value,(∃v w',(do pure (Next.value (← s)):Sem Next).run P w= .ok (.value v) w')∨(∃w',(do pure (Next.value (← s)):Sem Next).run P w= .ok .skip w')∨∃x w',(do pure (Next.value (← s)):Sem Next).run P w= .halt x w' :=by
  intro s;simp only[Sem.run_bind,Sem.run_pure]
  cases s.run P w with
  |ok v w' =>exact .inl ⟨v,w',rfl⟩
  |halt x w' =>exact .inr (.inr ⟨x,w',rfl⟩)
 have key2:∀s:Sem Unit,(∃v w',(do s;pure Next.skip:Sem Next).run P w= .ok (.value v) w')∨(∃w',(do s;pure Next.skip:Sem Next).run P w= .ok .skip w')∨∃x w',(do s;pure Next.skip:Sem Next).run P w= .halt x w' :=by
  intro s;simp only[Sem.run_bind,Sem.run_pure]
  cases s.run P w with
  |ok v w' =>exact .inr (.inl ⟨w',rfl⟩)
  |halt x w' =>exact .inr (.inr ⟨x,w',rfl⟩)
 obtain⟨d,op,ty,pos,aft,g⟩:=o
 cases op<;>simp only[Gy] at h<;>try (exact absurd h (by decide))
 case move x=>exact .inl ⟨_,w,rfl⟩
 case assign x=>exact .inl ⟨_,w,rfl⟩
 case alloc e=>exact key _
 case build t p=>exact key _
 case buildSlice t l p=>exact key _
 case load t x=>exact key _
 case store t x y=>exact key2 _
 case binOp=>exact key _
 case slice=>exact key _
 case fieldAddr=>exact key _
 case indexAddr=>exact key _
 case call c=>
  obtain⟨callee,args,ats⟩:=c
  cases callee<;>simp only at h<;>try (exact absurd h (by decide))
  case builtin b=>
   cases b<;>simp only at h<;>try (exact absurd h (by decide))
   have:execOp ρ ⟨d, .call ⟨.builtin .append,args,ats⟩,ty,pos,aft,g⟩=(do pure (Next.value (← Builtin.append_ ats ty (args.map ρ))):Sem Next):=by
    simp[execOp,resolve,invoke,builtin]
   rw[this]
   exact key _

theorem Hz {o:Oper} (h:Gy o=true):∀cs b,o.op≠ .select cs b:=by
 intro cs b e;simp[Gy,e] at h

theorem OU {i:Nat} {oi:Oper} {R:Value->Prop} (hi:ops[i]? =some oi) (hp:∀(j:Nat) (o:Oper),ops[j]? =some o->o.guard=none/\Gy o=true)
  (hQ:∀c v a w,Q (.panic c) (a.put oi.dst v) w->Q (.panic c) a w) :
  ∀(fuel:Nat) (listed:Array Bool) (a:Act) (w:World),
   (∀j oj,ops[j]? =some oj->j≠i->listed.getD j true=false->(∀e∈oj.after,Region.binds .any e=true->e.on≠i)->oi.apart ops oj=true)→
   i∈Region.ready .any ops listed->(∀w',S w' ->∃v u,(execOp a.eval oi).run P w' = .ok (.value v) u/\R v/\AH w' u/\S u)→
   (∀v,R v->wpR P ops Q S fuel (listed.setIfInBounds i true) (a.put oi.dst v) w)->wpR P ops Q S (fuel+1) listed a w:=by
 have hw:∀(o:Oper),o.guard=none->∀y,Region.wanted o y=true:=fun o h y=>by simp[Region.wanted,h]
 have hself:∀(fuel:Nat) (listed:Array Bool) (a:Act) (w w' :World),(∀w',S w' ->∃v u,(execOp a.eval oi).run P w' = .ok (.value v) u/\R v/\AH w' u/\S u)->(∀v,R v->wpR P ops Q S fuel (listed.setIfInBounds i true) (a.put oi.dst v) w)->AH w w' ->S w' →
   wpOp P ops Q i (fun a' w'' =>S w'' ∧wpR P ops Q S fuel (listed.setIfInBounds i true) a' w'') a w' :=by
  intro fuel listed a w w' hrun H hl hS;obtain⟨v,u,hr,hR,hu,hSu⟩:=hrun w' hS
  unfold wpOp;simp only[hi]
  rw[if_pos (hw oi (hp i oi hi).1 _)]
  refine .inl ?_
  unfold Oper.wp
  rw[hr]
  exact⟨hSu,(H v hR).later (hl.trans hu)⟩
 intro fuel;induction fuel with
 |zero=>
  intro listed a w _ hr hrun H w' hl hS;refine⟨fun h=>(by rw[h] at hr;cases hr),fun j hj=> ?_⟩
  by_cases hji:j=i
  ·subst hji;exact hself 0 listed a w w' hrun H hl hS
  ·obtain⟨v,u,_,hR,_⟩:=hrun w' hS
   have h1:=(H v hR w' hl hS).1
   have:=ready_mono hj hji
   rw[h1] at this
   cases this
 |succ fuel ih=>
  intro listed a w hfree hr hrun H w' hl hS;refine⟨fun h=>(by rw[h] at hr;cases hr),fun j hj=> ?_⟩
  by_cases hji:j=i
  ·subst hji;exact hself (fuel+1) listed a w w' hrun H hl hS
  ·obtain⟨hjun,oj,hoj,hall⟩:=mem_ready.1 hj
   have hnot:∀e∈oj.after,Region.binds .any e=true->e.on≠i:=fun e he hb heq=>by
    have h1:=hall e he hb
    have h0:=(mem_ready.1 hr).1
    rw[heq] at h1
    rcases Nat.lt_or_ge i listed.size with h' | h'
    ·simp[h'] at h0 h1;rw[h0] at h1;cases h1
    ·simp[Array.getElem?_eq_none h'] at h1
   obtain⟨h1,h2,h3⟩:=Oper.apart_spec (hfree j oj hoj hji hjun hnot)
   have hsj:=Hz (hp j oj hoj).2
   have hsi:=Hz (hp i oi hi).2
   have hfree' :∀k ok,ops[k]? =some ok->k≠i->(listed.setIfInBounds j true).getD k true=false→
     (∀e∈ok.after,Region.binds .any e=true->e.on≠i)->oi.apart ops ok=true:=fun k ok hk hki hun hno=>by
    refine hfree k ok hk hki ?_ hno
    by_cases hjk:j=k
    ·subst hjk;exact hjun
    ·rw[getD_set_ne true hjk] at hun;exact hun
   have hstep:∀v,R v->oj.wp P (a.put oi.dst v) w' (fun a' w'' =>S w'' ∧wpR P ops Q S fuel ((listed.setIfInBounds i true).setIfInBounds j true) a' w'') Q∨(oj.asks P (a.put oi.dst v) w' ∧LetsOut Q):=fun v hv=>by
    have:=(H v hv w' hl hS).2 j (ready_mono hj hji)
    unfold wpOp at this;simp only[hoj] at this
    rw[if_pos (hw oj (hp j oj hoj).1 _)] at this
    exact this
   unfold wpOp;simp only[hoj]
   rw[if_pos (hw oj (hp j oj hoj).1 _)]
   by_cases hask:oj.asks P a w' ∧LetsOut Q
   ·exact .inr hask
   refine .inl ?_
   have hstep' :∀v,R v->oj.upon P (a.put oi.dst v) (fun a' w'' =>S w'' ∧wpR P ops Q S fuel ((listed.setIfInBounds i true).setIfInBounds j true) a' w'') Q ((execOp a.eval oj).run P w'):=fun v hv=>by
    rcases hstep v hv with h|⟨h,k⟩
    ·unfold Oper.wp at h
     rw[execOp_put oj hsj a oi.dst v h1] at h
     exact h
    ·exfalso
     apply hask
     unfold Oper.asks at *
     rw[execOp_put oj hsj a oi.dst v h1] at h
     exact⟨h,k⟩
   have next:∀(u:Value) (w'' :World),(∀v,R v->S w'' ∧wpR P ops Q S fuel ((listed.setIfInBounds i true).setIfInBounds j true) ((a.put oi.dst v).put oj.dst u) w'')->S w'' ∧wpR P ops Q S (fuel+1) (listed.setIfInBounds j true) (a.put oj.dst u) w'' :=by
    intro u w'' hall';obtain⟨v0,_,_,hR0,_⟩:=hrun w' hS
    refine⟨(hall' v0 hR0).1,ih (listed.setIfInBounds j true) (a.put oj.dst u) w'' hfree' (ready_mono hr (Ne.symm hji)) (fun w3 hS3=> ?_) (fun v hv=> ?_)⟩
    ·rw[execOp_put oi hsi a oj.dst u h3]
     exact hrun w3 hS3
    ·have:=(hall' v hv).2
     rw[Act.put_comm a v u h2,Array.setIfInBounds_comm _ _ (Ne.symm hji)] at this
     exact this
   unfold Oper.wp
   rcases Pg (P:=P) (hp j oj hoj).2 a.eval w' with⟨u,w'',hrun'⟩|⟨w'',hrun'⟩|⟨x,w'',hrun'⟩
   ·rw[hrun'] at hstep' ⊢
    exact next u w'' (fun v hv=>hstep' v hv)
   ·rw[hrun'] at hstep' ⊢
    exact next undef w'' (fun v hv=>hstep' v hv)
   ·rw[hrun'] at hstep' ⊢
    obtain⟨v0,_,_,hR0,_⟩:=hrun w' hS
    have:=hstep' v0 hR0
    cases x<;>simp only[Oper.upon] at this ⊢
    case panic u=>exact hQ _ _ _ _ this

def KU (ops:Array Oper):Bool:=ops.toList.all fun o=>o.guard.isNone&&Gy o
theorem Kj (h:KU ops=true):∀(j:Nat) (o:Oper),ops[j]? =some o->o.guard=none/\Gy o=true:=by
 intro j o ho;unfold KU at h;rw[List.all_eq_true] at h
 have:=h o (by
  have:=Array.mem_of_getElem? ho
  simpa using this)
 simp only[Bool.and_eq_true] at this
 exact⟨by simpa using this.1,this.2⟩

theorem Ec {i:Nat} {oi:Oper} (R:Value->Prop) {fuel:Nat} {listed:Array Bool} {a:Act} {w:World} (hi:ops[i]? =some oi) (hp:KU ops=true) (hf:Region.free .any ops listed i=true) (hr:(Region.ready .any ops listed).contains i=true)
  (hQ:∀c v a w,Q (.panic c) (a.put oi.dst v) w->Q (.panic c) a w) (hrun:∀w',S w' ->∃v u,(execOp a.eval oi).run P w' = .ok (.value v) u/\R v/\AH w' u/\S u)
  (h:∀v,R v->wpR P ops Q S fuel (listed.setIfInBounds i true) (a.put oi.dst v) w):wpR P ops Q S (fuel+1) listed a w:=
 OU hi (Kj hp) hQ fuel listed a w (Region.free_spec hi hf) (by simpa using hr) hrun h

theorem E7 {i:Nat} {o:Oper} {fuel:Nat} {listed:Array Bool} {a:Act} {w:World} (hr:Region.ready .any ops listed=[i]) (ho:ops[i]? =some o)
  (h:∀w',AH w w' ->S w' ->∀K' :Act->World->Prop,Shut (∀a w,S w->wpR P ops Q S fuel (listed.setIfInBounds i true) a w->K' a w)->if Region.wanted o (yielded ops a.tmps)=true then Oper.wp P o a w' K' Q else K' (a.put o.dst undef) w') :
  wpR P ops Q S (fuel+1) listed a w:=fun w' hl hS=>⟨fun h0=>(by rw[hr] at h0;cases h0),fun j hj=>by
  rw[hr] at hj
  simp only[List.mem_singleton] at hj
  subst hj;exact wpOp_step ho (fun K' hK=>h w' hl hS K' (fun a w h1 h2=>hK a w ⟨h1,h2⟩))⟩
theorem Kc {i k:Nat} {o o2:Oper} {fuel:Nat} {listed:Array Bool} {a:Act} {w:World} (hr:Region.ready .any ops listed=[i,k]) (ho:ops[i]? =some o) (ho2:ops[k]? =some o2)
  (h:∀w',AH w w' ->S w' ->∀K' :Act->World->Prop,Shut (∀a w,S w->wpR P ops Q S fuel (listed.setIfInBounds i true) a w->K' a w)->if Region.wanted o (yielded ops a.tmps)=true then Oper.wp P o a w' K' Q else K' (a.put o.dst undef) w')
  (h2:∀w',AH w w' ->S w' ->∀K' :Act->World->Prop,Shut (∀a w,S w->wpR P ops Q S fuel (listed.setIfInBounds k true) a w->K' a w)->if Region.wanted o2 (yielded ops a.tmps)=true then Oper.wp P o2 a w' K' Q else K' (a.put o2.dst undef) w') :
  wpR P ops Q S (fuel+1) listed a w:=fun w' hl hS=>⟨fun h0=>(by rw[hr] at h0;cases h0),fun j hj=>by
  rw[hr] at hj
  simp only[List.mem_cons,List.not_mem_nil,or_false] at hj
  rcases hj with rfl|rfl
  ·exact wpOp_step ho (fun K' hK=>h w' hl hS K' (fun a w h1 h2=>hK a w ⟨h1,h2⟩))
  ·exact wpOp_step ho2 (fun K' hK=>h2 w' hl hS K' (fun a w h1 h2=>hK a w ⟨h1,h2⟩))⟩
theorem GO {listed:Array Bool} {a:Act} {w:World} (hr:Region.ready .any ops listed=[]) (h:∀w',AH w w' ->S w' ->Q .normal a w'):∀fuel,wpR P ops Q S fuel listed a w
 |0=>fun w' hl hS=>⟨hr,h w' hl hS⟩
 |_+1=>fun w' hl hS=>⟨fun _=>h w' hl hS,by rw[hr];simp⟩
end
section
open Go.RowKit

abbrev UH (G:Nat->Prop) (vt vc:Value) (b:Nat):Prop:=G b/\¬wrB vt b/\¬wrB vc b
def Vj (n s:Nat) (G:Nat->Prop) (w:World) (vt vc:Value) (ts:List Tr) (cs:List Int):Prop:=
 ∃xs:List TV,xs.length=ts.length/\Ac w s 69 5 vt xs.length (AA xs)/\Ac w s 3 1 vc cs.length (Am cs)/\(∀g,wrB vt g->¬wrB vc g)∧
  ∀i,i<xs.length->Cv n w (UH G vt vc) (Ak xs i) (ts.getD i AR)

variable {n s:Nat} {G:Nat->Prop} {w w' :World} {vt vc vt' vc' :Value} {ts us:List Tr} {cs:List Int}

theorem Ss {a1 a2 a3 a4:Option Addr} {l:Bool} {n1 n2 n3 n4 q1 q2 q3 q4:Nat}:∀y∈[Value.bool l, .slice a1 n1 q1, .slice a2 n2 q2, .slice a3 n3 q3, .slice a4 n4 q4],y.oneCell' =true:=by
 intro y hy;simp at hy
 rcases hy with rfl|rfl|rfl|rfl|rfl<;>rfl
end
section
open Go.RowKit
end
section
open Go.RowKit
end
section
open Go.RowKit

def Els (n:Nat) (w:World) (F:Nat->Prop) (xs:List TV) (ts:List Tr):Prop:=xs.length=ts.length/\∀i,i<xs.length->Cv n w F (Ak xs i) (ts.getD i AR)
variable {n:Nat} {w w' :World} {F:Nat->Prop} {xs ys:List TV} {ts us:List Tr}
end
section
open Go.RowKit

theorem Ac.frame {w w' :World} {base e size n:Nat} {v:Value} {xs:List Value} (h:Ac w base e size v n xs) (hf:∀g,wrB v g->g<w.heap.size->w'.heap[g]? =w.heap[g]?):Ac w' base e size v n xs:=by
 rcases h with h|h
 ·obtain⟨hl,h|⟨g,cap,cur,rfl,hg,hh,hn,hcap,hsz,htake⟩⟩:=h
  ·exact .inl ⟨hl, .inl h⟩
  ·rcases Nat.eq_zero_or_pos cap with h1|h1
   ·subst h1;have:n=0:=by omega
    subst this;exact .inr ⟨rfl,List.length_eq_zero_iff.1 (by omega),g,rfl⟩
   ·exact .inl ⟨hl, .inr ⟨g,cap,cur,rfl,hg,(hf g ⟨_,_,rfl,h1⟩ (Array.getElem?_eq_some_iff.1 hh).1).trans hh,hn,hcap,hsz,htake⟩⟩
 ·exact .inr h

def Aw:Nat->World->(Nat->Prop)->TV->Tr->Prop
 |0,_,_,_,_=>False
 | n + 1, w, F, x, T => x.lf = T.leaf ∧ Ac w 0 157 2 x.p T.pairs.length (AF T.pairs) ∧ Ac w 0 3 1 x.c T.cuts.length (Am T.cuts) ∧ Ac w 0 115 3 x.b T.buf.length (AW T.buf) ∧
   (∀g,wrB x.p g∨wrB x.c g∨wrB x.b g∨wrB x.k g->F g)∧
   ∃(xs:List TV) (K:Nat->Nat->Prop),xs.length=T.kids.length/\Ac w 0 69 5 x.k xs.length (AA xs)∧
    (∀i,i<xs.length->Aw n w (K i) (Ak xs i) (T.kids.getD i AR))∧
    (∀i g,i<xs.length->K i g->F g/\¬(wrB x.p g∨wrB x.c g∨wrB x.b g∨wrB x.k g))∧
    (∀i j g,i<j->j<xs.length->K i g->¬K j g)

theorem Aw.treeF:∀ {n:Nat} {w:World} {F:Nat->Prop} {x:TV} {T:Tr},Aw n w F x T->Cv n w F x T
 |0,_,_,_,_,h=>h.elim
 |n+1,w,F,x,T,⟨h1,h2,h3,h4,h5,xs,K,k1,k2,k3,k4,k5⟩=>by
  refine Cv.mk h1 (h2.rowF.mono (fun g hg=>h5 g (.inl hg))) (h3.rowF.mono (fun g hg=>h5 g (.inr (.inl hg)))) (h4.rowF.mono (fun g hg=>h5 g (.inr (.inr (.inl hg))))) ⟨xs,k1, ?_,fun i hi=>(k3 i hi).treeF.mono (fun g hg=>(k4 i g hi hg).1)⟩
  have:=k2.rowF.mono (G:=F) (fun g hg=>h5 g (.inr (.inr (.inr hg))))
  exact this
theorem Aw.mono:∀ {n:Nat} {w:World} {F G:Nat->Prop} {x:TV} {T:Tr},Aw n w F x T->(∀g,F g->G g)->Aw n w G x T
 |0,_,_,_,_,_,h,_=>h.elim
 |_+1,_,_,_,_,_,⟨h1,h2,h3,h4,h5,xs,K,k1,k2,k3,k4,k5⟩,hk=>⟨h1,h2,h3,h4,fun g hg=>hk g (h5 g hg),xs,K,k1,k2,k3,fun i g hi hg=>⟨hk g (k4 i g hi hg).1,(k4 i g hi hg).2⟩,k5⟩
theorem Aw.frame:∀ {n:Nat} {w w' :World} {F:Nat->Prop} {x:TV} {T:Tr},Aw n w F x T->(∀g,F g->g<w.heap.size->w'.heap[g]? =w.heap[g]?)->Aw n w' F x T
 |0,_,_,_,_,_,h,_=>h.elim
 |_+1,_,_,_,_,_,⟨h1,h2,h3,h4,h5,xs,K,k1,k2,k3,k4,k5⟩,hf=>⟨h1,h2.frame (fun g hg=>hf g (h5 g (.inl hg))),h3.frame (fun g hg=>hf g (h5 g (.inr (.inl hg)))),h4.frame (fun g hg=>hf g (h5 g (.inr (.inr (.inl hg))))),h5,xs,K,k1,k2.frame (fun g hg=>hf g (h5 g (.inr (.inr (.inr hg))))),fun i hi=>(k3 i hi).frame (fun g hg=>hf g (k4 i g hi hg).1),k4,k5⟩
theorem Aw.lt:∀ {n:Nat} {w:World} {F:Nat->Prop} {x:TV} {T:Tr},Aw n w F x T->Aw n w (fun g=>F g/\g<w.heap.size) x T
 |0,_,_,_,_,h=>h.elim
 | _ + 1, _, _, _, _, ⟨h1, h2, h3, h4, h5, xs, K, k1, k2, k3, k4, k5⟩ => ⟨h1, h2, h3, h4, fun g hg => ⟨h5 g hg, by
   rcases hg with h|h|h|h
   ·exact(h2.lt g h).2
   ·exact(h3.lt g h).2
   ·exact(h4.lt g h).2
   ·exact(k2.lt g h).2⟩,xs,fun i g=>K i g/\g<_,k1,k2,fun i hi=>(k3 i hi).lt,fun i g hi hg=>⟨⟨(k4 i g hi hg.1).1,hg.2⟩,(k4 i g hi hg.1).2⟩,fun i j g hij hj hg hg' =>k5 i j g hij hj hg.1 hg'.1⟩
theorem Aw.chg {n:Nat} {w w' :World} {F P:Nat->Prop} {x:TV} {T:Tr} (h:Aw n w F x T) (hc:Chg P w w') (hd:∀g,F g->¬P g):Aw n w' F x T:=h.frame fun g hg hl=>hc.block g hl (hd g hg)
theorem Aw.below {n:Nat} {w w' :World} {F:Nat->Prop} {x:TV} {T:Tr} (h:Aw n w F x T) (hb:Below w.heap.size w w'):Aw n w' F x T:=h.frame fun g _ hl=>hb.block g hl
end
end Go.Proofs.YtkcaelfkcepdkaaGreat
