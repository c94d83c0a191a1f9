/-
  A range over a function whose iterator makes memory and calls others between two rounds: what the caller's rounds and the iterator owe each other, said by the caller's own blocks; and the law of the statement.
  slices.Values at a list of pairs: what it yields.
-/
import Derived.Test.YtnakaabnjelffaaGreatOfInject1
import Derived.RangeFuncNested
import Derived.RangeFuncLeaves
import Derived.OwnWalkIn
import Derived.TacticsInMore
import Derived.LoopNIn
import Derived.LoopIn
import Derived.Test.YtnakaabnjelffaaGreatOfInject11
namespace Go.Proofs.YtnakaabnjelffaaGreat
set_option maxRecDepth 100000
set_option maxHeartbeats 8000000
section
open Go.RowKit

structure Kx (X:World->Nat->Prop) (W W' :World):Prop where
 chg:Chg (X W) W W'
 sub:∀g,X W' g->X W g∨W.heap.size<=g
theorem Kx.refl (X:World->Nat->Prop) (W:World):Kx X W W:=⟨Chg.refl _ _,fun _ h=> .inl h⟩
theorem Kx.trans {X:World->Nat->Prop} {A B C:World} (h:Kx X A B) (k:Kx X B C):Kx X A C:=
 ⟨h.chg.trans k.chg fun g hg hx=>(h.sub g hx).elim id fun h' =>by omega,fun g hg=>(k.sub g hg).elim (fun hx=>(h.sub g hx)) fun h' => .inr (Nat.le_trans h.chg.size h')⟩

structure Cl {α :Type} (X:World->Nat->Prop) (J:List α ->World->Prop):Prop where
 lt:∀s W g,J s W->X W g->g<W.heap.size
 abide:∀s W W',J s W->Chg (fun g=>¬X W g) W W' ->J s W' ∧∀g,X W' g↔X W g
theorem Cl.kx {α :Type} {X:World->Nat->Prop} {J:List α ->World->Prop} (h:Cl X J) {s:List α} {W W' :World} (hj:J s W) (hc:Chg (fun _=>False) W W'):J s W' ∧Kx X W W' ∧∀g,X W' g↔X W g:=by
 have:=h.abide s W W' hj (hc.mono fun _ _ h=>h.elim)
 exact⟨this.1,⟨hc.mono fun _ _ h=>h.elim,fun g hg=> .inl ((this.2 g).1 hg)⟩,this.2⟩

def H9 {α :Type} (P:Program) (gf:Nat) (lb:Array Value) (encs: α ->Array Value) (Dta:Nat->Prop) (L:List α) (w:World):Prop:=
 ∀(n l:Nat) (X:World->Nat->Prop) (J Jx:List α ->World->Prop) (W:World),Chg (fun g=>¬Dta g) w W->(∀g,Dta g->¬X W g)->Cl X J->Cl X Jx→
  (∀pre x W1,J pre W1->pre++[x] <+: L->YieldAt Fence.wide (n-1) P l (encs x) W1 fun e W'=>
   (e= .returned (.bool true)/\J (pre++[x]) W' ∧Kx X W1 W')∨(e= .returned (.bool false)/\Jx (pre++[x]) W' ∧Kx X W1 W'))→
  J [] W→
  CallsIn Fence.wide n P gf (#[.func (.yield l) #[] #[]]++lb) W fun e W' =>(∃v,e= .returned v)/\(J L W' ∨∃pre,pre <+: L/\Jx pre W')/\Kx X W W'

theorem U2 {F:Fence} (hd:F.depth=none) (k:Nat):F.room k:=fun d h=>by rw[hd] at h;cases h
theorem Qr {m:Nat} (m' :Nat) {P:Program} {l:Nat} {args:Array Value} {W:World} {R:Ending->World->Prop} (h:YieldAt Fence.wide m P l args W R):YieldAt Fence.wide m' P l args W R:=by
 obtain⟨fn,tmps,assign,body,hy,h1,h2⟩:=h
 exact⟨fn,tmps,assign,body,hy,h1,fun c cs _=>h2 c cs (U2 rfl _)⟩

def Ys {α :Type} (X:World->Nat->Prop) (I:List α ->World->Prop) (Ix:Code->List α ->World->Prop) (xs:List α) (W:World):Exit->Act->World->Prop
 |.normal,_,W' =>I xs W' ∧Kx X W W'
 |.ret,_,W' =>Ix .ret xs W' ∧Kx X W W'
 |.exit id,_,W' =>Ix (.exit id) xs W' ∧Kx X W W'
 |.goto t,_,W' =>Ix (.goto t) xs W' ∧Kx X W W'
 |.panic _,_,_=>False
 |.outgrown,_,_=>False

theorem EF {F:Nat->Prop} (W:World) (l:Nat) (o:Obj) (hl:F l):Chg F W (W.putObj l o):=
 ⟨rfl,rfl,rfl,by simp,fun k _ hk=>World.putObj_heap_other (fun e=>hk (by subst e;exact hl))⟩
theorem Ok {F:Nat->Prop} (W:World) (o:Obj):Chg F W (W.alloc o):=(Chg.refl F W).alloc o

theorem IW {α :Type} {P:Program} {n:Nat} {g:Operand} {ps:Array Tmp} {assign body:Code} {Q:Exit->Act->World->Prop} {a:Act} {w:World}
  {gf:Nat} {lb:Array Value} (hg:a.eval g= .func (.func gf) #[] lb) (eg:∀args w,(callFunc gf args).run P w= .ok (.enter gf args) w)
  {encs: α ->Array Value} {Dta:Nat->Prop} {L:List α} {w0:World} (hseq:H9 P gf lb encs Dta L w0) (h0w:Chg (fun g=>¬Dta g) w0 w) (hDlt:∀g,Dta g->g<w.heap.size) (hps:∀x,(encs x).size=ps.size)
  (X:World->Nat->Prop) (I:List α ->World->Prop) (Ix:Code->List α ->World->Prop) (hI:Cl X I) (hIx:∀c,Cl X (Ix c)) (hD:∀g,Dta g->¬X w g) (h0:I [] w)
  (Ax: α ->Act->World->Prop) (hAx:∀x a' W l o o',Ax x a' W->W.heap[l]? =some o->o.isCells=false->Ax x a' (W.putObj l o'))
  (hassign:∀(l:Nat) (pre:List α) (x: α) (W:World) (K:Act->World->Prop),I pre W->pre++[x] <+: L->(∀a' W',I pre W' ->Kx X W W' ->Ax x a' W' ->K a' W')→
   assign.wpIn (Fence.wide.inRound l) (n-1-1) P (Exit.then K (fun _ _ _=>False)) { tmps:=(ps.zip (encs x)).foldl (fun t (p,v)=>t.setIfInBounds p v) a.tmps,defers:=[] } W)
  (hbody:∀(l:Nat) (pre:List α) (x: α) (a' :Act) (W:World),I pre W->Ax x a' W->pre++[x] <+: L->body.wpIn (Fence.wide.inRound l) (n-1-1) P (Ys X I Ix (pre++[x]) W) a' W)
  (hdone:∀(D:Nat) (W:World),w.heap.size<=D->I L W->Kx X w W->W.heap[D]? =some (.deferred (some []))->¬X W D->Q .normal { a with defers:={ target:= .collected D,args:= #[] }::a.defers } W)
  (hstop:∀(D:Nat) (c:Code) (pre:List α) (W:World),w.heap.size<=D->pre <+: L->Ix c pre W->Kx X w W->W.heap[D]? =some (.deferred (some []))->¬X W D->c.wpIn Fence.wide n P Q { a with defers:={ target:= .collected D,args:= #[] }::a.defers } W) :
  (Code.rangeFunc g ps assign body).wpIn Fence.wide n P Q a w:=by
 refine wpIn_rangeFunc ?_
 intro fn hfn;obtain⟨rec,hrec⟩:∃rec:LoopState->Option Code->Loop,rec=fun st pe=>{ state:=st,pending:=pe,fn,tmps:=a.tmps,params:=ps,assign,body,defers:=w.heap.size }:=⟨_,rfl⟩
 obtain⟨W1,hW1⟩:∃W1,(w.alloc (.deferred (some []))).alloc (.loop (rec .ready none))=W1:=⟨_,rfl⟩
 have hL1:W1.heap[w.heap.size+1]? =some (.loop (rec .ready none)):=by
  rw[←hW1];have:=World.alloc_heap_new (w.alloc (.deferred (some []))) (.loop (rec .ready none));rwa [World.size_alloc] at this
 have hK1:W1.heap[w.heap.size]? =some (.deferred (some [])):=by
  rw[←hW1];exact(Below.heap_alloc _ _ _ (by simp)).trans (World.alloc_heap_new w _)
 have hc1:∀F:Nat->Prop,Chg F w W1:=fun F=>by rw[←hW1];exact(Ok w _).alloc _
 have hi1:=hI.abide [] w W1 h0 (hc1 _)
 have hs1:W1.heap.size=w.heap.size+2:=by rw[←hW1];simp
 refine⟨w.heap.size+1,[{ target:= .collected w.heap.size,args:= #[] }],W1,{ target:= .fn (.func gf) lb,args:= #[.func (.yield (w.heap.size+1)) #[] #[]] },W1,gf,
  #[.func (.yield (w.heap.size+1)) #[] #[]]++lb,W1, ?_, ?_, ?_, ?_,(fun h=>(by cases h)), ?_⟩
 ·rw[←hW1,hrec];exact run_enterLoop_outer _ _ _ _ _
 ·simp only[resolve,hg]
  simp[go_sem]
 ·intro f' _;trivial
 ·simp[invoke,go_sem,eg]
 ·-- THE ITERATOR's CONTRACT, AT THE CALLER's INVARIANT WITH THE BOOK-KEEPING BESIDE IT
  have hx1:∀g,X W1 g->g<w.heap.size:=fun g hg' =>hI.lt [] w g h0 ((hi1.2 g).1 hg')
  have hcl:∀(I' :List α ->World->Prop) (st:LoopState) (pe:Option Code),Cl X I' →
    Cl (fun W g=>X W g∨g=w.heap.size∨g=w.heap.size+1) (fun pre W=>I' pre W/\W.heap[w.heap.size+1]? =some (.loop (rec st pe))/\W.heap[w.heap.size]? =some (.deferred (some []))/\∀g,X W g->g≠w.heap.size/\g≠w.heap.size+1):=fun I' st pe hI' =>by
   refine⟨fun s W g h hx=> ?_,fun s W W' h hc=> ?_⟩
   ·rcases hx with hx|rfl|rfl
    ·exact hI'.lt s W g h.1 hx
    ·exact(Array.getElem?_eq_some_iff.1 h.2.2.1).1
    ·exact(Array.getElem?_eq_some_iff.1 h.2.1).1
   ·have:=hI'.abide s W W' h.1 (hc.mono fun g _ hn hx=>hn (.inl hx))
    refine⟨⟨this.1, ?_, ?_,fun g hx=>h.2.2.2 g ((this.2 g).1 hx)⟩,fun g=>by rw[this.2 g]⟩
    ·exact(hc.block _ (Array.getElem?_eq_some_iff.1 h.2.1).1 (fun hn=>hn (.inr (.inr rfl)))).trans h.2.1
    ·exact(hc.block _ (Array.getElem?_eq_some_iff.1 h.2.2.1).1 (fun hn=>hn (.inr (.inl rfl)))).trans h.2.2.1
  have hclx:Cl (fun W g=>X W g∨g=w.heap.size∨g=w.heap.size+1) (fun pre W=>∃c,Ix c pre W/\W.heap[w.heap.size+1]? =some (.loop (rec .done (some c)))/\W.heap[w.heap.size]? =some (.deferred (some []))/\∀g,X W g->g≠w.heap.size/\g≠w.heap.size+1):=by
   refine⟨fun s W g ⟨c,h⟩ hx=>(hcl (Ix c) .done (some c) (hIx c)).lt s W g h hx,fun s W W' ⟨c,h⟩ hc=> ?_⟩
   have:=(hcl (Ix c) .done (some c) (hIx c)).abide s W W' h hc
   exact⟨⟨c,this.1⟩,this.2⟩
  refine(hseq (n-1) (w.heap.size+1) (fun W g=>X W g∨g=w.heap.size∨g=w.heap.size+1) _ _ W1 (h0w.trans (hc1 _) (fun _ _ h=>h))
   (fun g hd hx=> ?_) (hcl I .ready none hI) hclx ?_ ⟨hi1.1,hL1,hK1,fun g hx=>by have:=hx1 g hx;omega⟩).mono ?_
  ·rcases hx with hx|rfl|rfl
   ·exact hD g hd ((hi1.2 g).1 hx)
   ·exact absurd (hDlt _ hd) (Nat.lt_irrefl _)
   ·have:=hDlt _ hd;omega
  ·-- ONE ROUND
   rintro pre x W ⟨hi,hl,hk,hne⟩ hpre
   have hlt:w.heap.size+1<W.heap.size:=(Array.getElem?_eq_some_iff.1 hl).1
   have hy:=run_yield (P:=P) (args:=encs x) hl (by rw[hrec];exact hps x)
   rw[hrec] at hy
   refine⟨fn,_,assign,body,hy,roundIn_of_wpIn hfn (hassign _ pre x W _ hi hpre ?_)⟩
   clear hy;intro a' Wa hia hka hax;have hna:∀g,X Wa g->g≠w.heap.size/\g≠w.heap.size+1:=fun g hx=>(hka.sub g hx).elim (hne g) fun h' =>by omega
   have hla:Wa.heap[w.heap.size+1]? =some (.loop (rec .ready none)):=(hka.chg.block _ hlt (fun hx=>(hne _ hx).2 rfl)).trans hl
   have hkk:Wa.heap[w.heap.size]? =some (.deferred (some [])):=(hka.chg.block _ (by omega) (fun hx=>(hne _ hx).1 rfl)).trans hk
   have hlta:w.heap.size+1<Wa.heap.size:=(Array.getElem?_eq_some_iff.1 hla).1
   refine⟨_,run_beginRound hla (by rw[hrec]), ?_⟩
   have hcb:Chg (fun g=>¬X Wa g) Wa (Wa.putObj (w.heap.size+1) (.loop { rec .ready none with state:= .busy })):=EF _ _ _ (fun hx=>(hna _ hx).2 rfl)
   obtain⟨hib,hxb⟩:=hI.abide pre Wa _ hia hcb
   have hl2:(Wa.putObj (w.heap.size+1) (.loop { rec .ready none with state:= .busy })).heap[w.heap.size+1]? =some (.loop { rec .ready none with state:= .busy }):=World.putObj_heap_same hlta
   have hk2:(Wa.putObj (w.heap.size+1) (.loop { rec .ready none with state:= .busy })).heap[w.heap.size]? =some (.deferred (some [])):=(World.putObj_heap_other (by omega)).trans hkk
   have kxa:Kx (fun W g=>X W g∨g=w.heap.size∨g=w.heap.size+1) W (Wa.putObj (w.heap.size+1) (.loop { rec .ready none with state:= .busy })):=
    ⟨(hka.chg.mono fun g _ hx=> .inl hx).trans (EF (F:=fun g=>g=w.heap.size+1) _ _ _ rfl) (fun g _ e=> .inr (.inr e)),fun g hx=>by
     rcases hx with hx|hx|hx
     ·exact(hka.sub g ((hxb g).1 hx)).elim (fun h=> .inl (.inl h)) .inr
     ·exact .inl (.inr (.inl hx))
     ·exact .inl (.inr (.inr hx))⟩
   refine wpIn_mono (hbody _ pre x a' _ hib (hAx x a' _ _ _ _ hax hla rfl) hpre) ?_
   have fin:∀(jump:Option Code) (xs:List α) (I' :List α ->World->Prop) (W3:World),Cl X I' ->I' xs W3->Kx X (Wa.putObj (w.heap.size+1) (.loop { rec .ready none with state:= .busy })) W3→
     (Instr.endRound (w.heap.size+1) jump).run P W3= .ok (.bool jump.isNone) (W3.putObj (w.heap.size+1) (.loop (rec (if jump.isNone then .ready else .done) jump)))∧
     (I' xs (W3.putObj (w.heap.size+1) (.loop (rec (if jump.isNone then .ready else .done) jump)))/\(W3.putObj (w.heap.size+1) (.loop (rec (if jump.isNone then .ready else .done) jump))).heap[w.heap.size+1]? =some (.loop (rec (if jump.isNone then .ready else .done) jump))∧
     (W3.putObj (w.heap.size+1) (.loop (rec (if jump.isNone then .ready else .done) jump))).heap[w.heap.size]? =some (.deferred (some []))/\∀g,X (W3.putObj (w.heap.size+1) (.loop (rec (if jump.isNone then .ready else .done) jump))) g->g≠w.heap.size/\g≠w.heap.size+1)∧
     Kx (fun W g=>X W g∨g=w.heap.size∨g=w.heap.size+1) W (W3.putObj (w.heap.size+1) (.loop (rec (if jump.isNone then .ready else .done) jump))):=fun jump xs I' W3 hI' hi3 hk3=>by
    have hn2:∀g,X (Wa.putObj (w.heap.size+1) (.loop { rec .ready none with state:= .busy })) g->g≠w.heap.size/\g≠w.heap.size+1:=fun g hx=>hna g ((hxb g).1 hx)
    have hl3:W3.heap[w.heap.size+1]? =some (.loop { rec .ready none with state:= .busy }):=(hk3.chg.block _ (by simp;omega) (fun hx=>(hn2 _ hx).2 rfl)).trans hl2
    have hk4:W3.heap[w.heap.size]? =some (.deferred (some [])):=(hk3.chg.block _ (by simp;omega) (fun hx=>(hn2 _ hx).1 rfl)).trans hk2
    have hn3:∀g,X W3 g->g≠w.heap.size/\g≠w.heap.size+1:=fun g hx=>(hk3.sub g hx).elim (hn2 g) fun h' =>by simp at h';omega
    have he:=run_endRound (P:=P) jump hl3
    obtain⟨hi4,hx4⟩:=hI'.abide xs W3 (W3.putObj (w.heap.size+1) (.loop (rec (if jump.isNone then .ready else .done) jump))) hi3 (EF _ _ _ (fun hx=>(hn3 _ hx).2 rfl))
    refine⟨by rw[hrec] at he ⊢;exact he,⟨hi4,World.putObj_heap_same (Array.getElem?_eq_some_iff.1 hl3).1,(World.putObj_heap_other (by omega)).trans hk4,fun g hx=>hn3 g ((hx4 g).1 hx)⟩, ?_⟩
    refine kxa.trans ⟨(hk3.chg.mono fun g _ hx=> .inl hx).trans (EF (F:=fun g=>g=w.heap.size+1) _ _ _ rfl) (fun g _ e=> .inr (.inr e)),fun g hx=> ?_⟩
    rcases hx with hx|hx|hx
    ·exact(hk3.sub g ((hx4 g).1 hx)).elim (fun h=> .inl (.inl h)) .inr
    ·exact .inl (.inr (.inl hx))
    ·exact .inl (.inr (.inr hx))
   rintro e a3 W3 hp
   cases e with
   |normal=>
    obtain⟨hr,hj,hkx⟩:=fin none _ I W3 hI hp.1 hp.2
    exact⟨_,_,hr, .inl ⟨rfl,hj,hkx⟩⟩
   |ret=>
    obtain⟨hr,hj,hkx⟩:=fin (some .ret) _ (Ix .ret) W3 (hIx _) hp.1 hp.2
    exact⟨_,_,hr, .inr ⟨rfl,⟨.ret,hj⟩,hkx⟩⟩
   |exit id=>
    obtain⟨hr,hj,hkx⟩:=fin (some (.exit id)) _ (Ix (.exit id)) W3 (hIx _) hp.1 hp.2
    exact⟨_,_,hr, .inr ⟨rfl,⟨.exit id,hj⟩,hkx⟩⟩
   |goto t=>
    obtain⟨hr,hj,hkx⟩:=fin (some (.goto t)) _ (Ix (.goto t)) W3 (hIx _) hp.1 hp.2
    exact⟨_,_,hr, .inr ⟨rfl,⟨.goto t,hj⟩,hkx⟩⟩
   |panic ch=>exact hp.elim
   |outgrown=>exact hp.elim
  ·-- BEHIND THE ITERATOR
   rintro e W2 ⟨⟨v,rfl⟩,hh,hkx⟩
   have kend:∀(o:Obj) (hx:∀g,X (W2.putObj (w.heap.size+1) o) g↔X W2 g),Kx X w (W2.putObj (w.heap.size+1) o):=fun o hx=>by
    refine⟨⟨hkx.chg.os.trans (hc1 (fun _=>False)).os,hkx.chg.tape.trans (hc1 (fun _=>False)).tape,hkx.chg.output.trans (hc1 (fun _=>False)).output, ?_,fun g hg' hn=> ?_⟩,fun g hx' => ?_⟩
    ·have:=hkx.chg.size;simp;omega
    ·rw[World.putObj_heap_other (by omega),hkx.chg.block g (by omega) (fun hx' =>by
      rcases hx' with hx' | h' | h'
      ·exact hn ((hi1.2 g).1 hx')
      ·omega
      ·omega)]
     exact(hc1 (fun _=>False)).block g hg' (fun h=>h)
    ·rcases hkx.sub g (.inl ((hx g).1 hx')) with(h' | h' | h')|h'
     ·exact .inl ((hi1.2 g).1 h')
     ·exact .inr (by omega)
     ·exact .inr (by omega)
     ·exact .inr (by omega)
   rcases hh with⟨hi,hl,hk,hne⟩|⟨pre,hpre,c,hi,hl,hk,hne⟩
   ·obtain⟨hi4,hx4⟩:=hI.abide L W2 (W2.putObj (w.heap.size+1) (.loop { rec .ready none with state:= .exhausted })) hi (EF _ _ _ (fun hx=>(hne _ hx).2 rfl))
    exact⟨none,_,by have:=run_endLoop (P:=P) hl (by rw[hrec];simp);rw[hrec] at this;exact this,by
     have:=hdone w.heap.size _ (Nat.le_refl _) hi4 (kend _ hx4) ((World.putObj_heap_other (by omega)).trans hk) (fun hx=>(hne _ ((hx4 _).1 hx)).1 rfl)
     rw[hrec] at this
     exact this⟩
   ·obtain⟨hi4,hx4⟩:=(hIx c).abide pre W2 (W2.putObj (w.heap.size+1) (.loop { rec .done (some c) with state:= .exhausted })) hi (EF _ _ _ (fun hx=>(hne _ hx).2 rfl))
    exact⟨some c,_,by have:=run_endLoop (P:=P) hl (by rw[hrec];simp);rw[hrec] at this;exact this,by
     have:=hstop w.heap.size c pre _ (Nat.le_refl _) hpre hi4 (kend _ hx4) ((World.putObj_heap_other (by omega)).trans hk) (fun hx=>(hne _ ((hx4 _).1 hx)).1 rfl)
     rw[hrec] at this
     exact this⟩
end
section
open Go.RowKit Go.Shelf

attribute [local go_sem] Oper.semAt_some

def Je (p:Int × Int):Array Value:= #[.agg #[.int .i64 p.1, .int .i64 p.2]]

theorem Cl.alloc {α :Type} {X:World->Nat->Prop} {J:List α ->World->Prop} (h:Cl X J) {s:List α} {W:World} (hj:J s W) (o:Obj):J s (W.alloc o)/\Kx X W (W.alloc o):=by
 have:=h.kx hj (Ok W o)
 exact⟨this.1,this.2.1⟩
theorem Wx (l:PL) (j:Nat) (h:j<l.length):l.take j++[(kOf l j,vOf l j)] <+: l:=by
 rw[←Hn l j h]
 exact List.take_prefix _ _

theorem Sx (B:Nat) (v:Value) (l:PL) (w:World) (hB:Boxed w B 24 v) (hv:w.ownsRow 0 63 2 v l.length (Au l)) (hl:l.length<=4194304) :
  H9 Tryz.prog 104 #[.pointer (some ⟨B,0,none⟩)] Je (fun g=>g=B∨v.ownBlock=some g) l w:=by
 intro n lp X J Jx W hc hD hJ hJx hY h0;obtain⟨a,cap,rfl⟩:=Bu hv
 have BW:Hid (Boxed W B 24 (.slice a l.length cap)):=(hc.block B hB.lt (fun h=>h (.inl rfl))).trans hB
 have OW:Hid (W.ownsRow 0 63 2 (.slice a l.length cap) l.length (Au l)):=AQ hv hc (fun g hg h=>h (.inr hg))
 have DX:Hid (∀g,(Value.slice a l.length cap).ownBlock=some g->¬X W g):=fun g hg=>hD g (.inr hg)
 have hcap:cap<=maxLen:=by
  obtain⟨_,_,_,c',h1,_,h3,_⟩:=Row.of_owns OW.out
  cases h1
  exact h3
 unfold maxLen at hcap;have c0:=BW.out.cell
 have HY:Hid (∀pre x W1,J pre W1->pre++[x] <+: l->YieldAt Fence.wide (n-1) Tryz.prog lp (Je x) W1 fun e W'=>
   (e= .returned (.bool true)/\J (pre++[x]) W' ∧Kx X W1 W')∨(e= .returned (.bool false)/\Jx (pre++[x]) W' ∧Kx X W1 W')):=hY
 clear hY hc hB hv hD;show CallsIn Fence.wide n Tryz.prog 104 #[.func (.yield lp) #[] #[], .pointer (some ⟨B,0,none⟩)] W _
 refine callsIn_of_wp Tryz.func104 rfl trivial ?_ rfl
 simp only[Tryz.ntmps104,List.size_toArray,List.length_cons,List.length_nil,Nat.reduceAdd,Nat.reduceSub,Array.replicate_succ,Array.replicate_zero,List.push_toArray,List.append_toArray,List.nil_append,List.cons_append]
 gi_wp2
 gi_loopw [7] (fun i wr=>∃j:Nat,j<=l.length/\i= .int .i64 j/\Hid (J (l.take j) wr)/\Hid (Kx X W wr)) (fun i _=>l.length-(intOf i).toNat)
 case atStart=>exact⟨0,Nat.zero_le _,rfl,h0,Kx.refl _ _⟩
 case round=>
  obtain⟨j,hj,rfl,HJ,HK⟩:=hrel
  by_cases hlt:j<l.length
  ·have OR:Hid (wr.ownsRow 0 63 2 (.slice a l.length cap) l.length (Au l)):=AQ OW.out HK.out.chg DX.out
   obtain⟨a',bv,off,cap',hav,hcap',hmax,ha,ck,cv2⟩:=(Row.of_owns OR.out).pairs
   simp only[Value.slice.injEq,true_and] at hav
   obtain⟨rfl,rfl⟩:=hav
   have hal:=ha (by omega)
   subst hal;have t0:=ck j hlt
   have t1:=cv2 j hlt
   have AL:Hid _:=hJ.alloc HJ.out (.cells #[.int .i64 (kOf l j), .int .i64 (vOf l j)] 63)
   have PR:Hid (l.take j++[(kOf l j,vOf l j)] <+: l):=Wx l j hlt
   have TS:Hid (l.take (j+1)=l.take j++[(kOf l j,vOf l j)]):=Hn l j hlt
   obtain⟨fn,tmps,assign,body,hy,hR⟩:=HY.out (l.take j) (kOf l j,vOf l j) (wr.alloc (.cells #[.int .i64 (kOf l j), .int .i64 (vOf l j)] 63)) AL.out.1 PR.out
   dsimp only[Je] at hy
   clear ck cv2 ha hmax c0;gi_wp2
   refine⟨fun h=>(by cases h),hR.mono ?_⟩
   rintro e W3 (⟨rfl,hJ3,hk3⟩|⟨rfl,hJx3,hk3⟩)
   ·have FIN:Hid (J (l.take (j+1)) W3/\Kx X W W3):=⟨by rw[TS.out];exact hJ3,(HK.out.trans AL.out.2).trans hk3⟩
    clear hJ3 hk3 hR hy t0 t1;gi_wp2
    go_roundw
    case rel=>exact⟨j+1,by omega,by go_num,FIN.out.1,FIN.out.2⟩
    case measure=>simp[intOf];omega
   ·have FIN:Hid ((∃pre,pre <+: l/\Jx pre W3)/\Kx X W W3):=⟨⟨_,PR.out,hJx3⟩,(HK.out.trans AL.out.2).trans hk3⟩
    clear hJx3 hk3 hR hy t0 t1;gi_wp2
    refine bodyPost_ret (results_none rfl _ _ _) rfl ?_
    exact⟨⟨_,rfl⟩, .inr FIN.out.1,FIN.out.2⟩
  ·have hjj:j=l.length:=by omega
   have FIN:Hid (J l wr/\Kx X W wr):=⟨by have:=HJ.out;rw[hjj,List.take_of_length_le (Nat.le_refl _)] at this;exact this,HK.out⟩
   gi_wp2
   go_end0
   exact⟨⟨_,rfl⟩, .inl FIN.out.1,FIN.out.2⟩
end
end Go.Proofs.YtnakaabnjelffaaGreat
